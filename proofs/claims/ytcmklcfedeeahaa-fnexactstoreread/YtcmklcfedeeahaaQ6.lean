/-
  Texts that belong together, one behind the other: SpecB, SpecC, Kp, SpecD, SpecW, Ok2, SpecF.
-/
import Derived.Test.YtcmklcfedeeahaaQ5
import Derived.Deep.RegionHeld3
import Derived.Deep.DrawnRows
import Derived.Deep.AppendLies
import Derived.Laws.OwnMore

/-
  The specification's FlashOk, FlashClean and search for a number, for every list of blocks.
-/
namespace Go.Proofs.Ytcmklcfedeeahaa.SpecB
open Go.ChangeShapes Go.WideShapes Go.ChangeAt Go.RowKit OkA Big Fl ImplB ImplF ImplS Own ImplT ImplU SpecA
set_option linter.unusedVariables false
set_option linter.unusedSimpArgs false

set_option maxHeartbeats 400000 in
theorem specOk_nil (a : Option Addr) (cap : Nat) (w : World) :
    Calls Try.prog 55 #[.slice a 0 cap] w fun e w' => e = .returned (.bool false) ∧ Below w.heap.size w w' := by
  go_enter Try.func55, Try.ntmps55
  go_wp2_with (first | (refine wpList_make_big rfl 109 _ _ rfl 601 rfl rfl 4 1 1 (.bool false) Try.underlying109 (by kernel_rfl) (by omega) (by omega) ?_))
  have b0 : Below w.heap.size w (w.alloc (.cells (madeCells #[.bool false] 601) 4)) := (Below.refl _ _).alloc (Nat.le_refl _) _
  generalize w.alloc (.cells (madeCells #[.bool false] 601) 4) = w1 at *
  go_rounds 1
  go_ret
  exact ⟨rfl, b0⟩
theorem specFlashOk_any (a : Option Addr) (cap : Nat) (bs : List Bk) (w : World) (hf : FsAt w a bs) (hm : bs.length ≤ 1048576) :
    Calls Try.prog 55 #[.slice a bs.length cap] w fun e w' => e = .returned (.bool (okB bs)) ∧ Below w.heap.size w w' := by
  rcases hf with rfl | ⟨b, o, rfl, h⟩
  · exact specOk_nil a cap w
  · exact specOkF b o cap bs w hm h

def cleanN (ps : List Pg) : Nat := (ps.filter clB).length
theorem cleanN_take (ps : List Pg) (k : Nat) (hk : k < ps.length) : cleanN (ps.take (k + 1)) = cleanN (ps.take k) + if clB ps[k] then 1 else 0 := by
  rw [List.take_succ_eq_append_getElem hk]
  unfold cleanN
  rw [List.filter_append, List.length_append]
  cases h : clB ps[k] <;> simp [h]
theorem cleanN_le (ps : List Pg) : cleanN ps ≤ ps.length := List.length_filter_le _ _

set_option maxHeartbeats 400000 in
theorem l2Clean_any (pb po cap : Nat) (ps : List Pg) (wn : Int) (w : World) (h4 : ps.length = 4) (hr : w.rangeAt pb po (psC ps)) :
    Calls Try.prog 104 #[.agg #[.slice (some ⟨pb, po, none⟩) 4 cap, .int .i64 wn]] w fun e w' => e = .returned (.int .i64 (cleanN ps)) ∧ Below w.heap.size w w' := by
  have hr1 := World.rangeAt_alloc hr (.cells #[.slice (some ⟨pb, po, none⟩) 4 cap, .int .i64 wn] 102)
  have HR := hide hr1
  clear hr hr1
  go_enter Try.func104, Try.ntmps104
  go_wp2
  go_loop [3, 4] (fun n i => ∃ k : Nat, k ≤ 4 ∧ i = .int .i64 k ∧ n = .int .i64 (cleanN (ps.take k))) (fun _ i => 4 - (intOf i).toNat)
  case atStart => exact ⟨0, by omega, rfl, rfl⟩
  case round =>
    obtain ⟨k, hk, rfl, rfl⟩ := hrel
    by_cases h0 : k = 4
    · subst h0
      have e : ps.take 4 = ps := List.take_of_length_le (by omega)
      have E := hide e
      clear e
      go_wp2
      go_ret
      exact ⟨by rw [unhide E]; rfl, (Below.refl _ _).alloc (Nat.le_refl _) _⟩
    · have hlt : (k : Int) < 4 := by omega
      have hlo : (0 : Int) ≤ (k : Int) := by omega
      have hkb : k < ps.length := by omega
      have c0 := (PsAt.cells (unhide HR) k hkb).1
      have hn := cleanN_le (ps.take k)
      have hn2 : (ps.take k).length ≤ 4 := by simp; omega
      have HT := hide (cleanN_take ps k hkb)
      generalize ps[k] = p at *
      by_cases hp : p.st = 0
      · have g : (p.st == 0) = true := by simpa using hp
        have HP := hide hp
        clear hp
        go_wp2
        go_round
        case rel =>
          have h0 := unhide HT
          rw [if_pos (by simpa [clB] using unhide HP)] at h0
          exact ⟨k + 1, by omega, by first | rfl | go_num, by rw [h0]; go_num⟩
        case measure => simp [intOf]; omega
      · have g : (p.st == 0) = false := by simpa using hp
        have HP := hide hp
        clear hp
        go_wp2
        go_round
        case rel =>
          have h0 := unhide HT
          rw [if_neg (by simpa [clB] using unhide HP)] at h0
          exact ⟨k + 1, by omega, by first | rfl | go_num, by rw [h0]; rfl⟩
        case measure => simp [intOf]; omega

/-- Of an ok block the clean pages are all behind the used ones. -/
theorem clean_used (ps : List Pg) (h : tailB ps = true) : cleanN ps + usedN ps = ps.length := by
  induction ps with
  | nil => rfl
  | cons p r ih =>
    have hh := h
    simp only [tailB, Bool.and_eq_true, Bool.or_eq_true, Bool.not_eq_true'] at h
    have ih' := ih h.2
    simp only [usedN, List.length_cons]
    cases hc : clB p
    · have e : cleanN (p :: r) = cleanN r := by simp [cleanN, hc]
      rw [e]
      by_cases h0 : usedN r = 0
      · rw [if_pos h0]; simp; omega
      · rw [if_neg h0]; omega
    · have e : cleanN (p :: r) = cleanN r + 1 := by simp [cleanN, hc]
      have h0 : usedN r = 0 := (usedN_zero r).2 (by rcases h.1 with g | g; rw [hc] at g; cases g; exact g)
      rw [e, if_pos h0]
      simp
      omega
theorem ok_tail {bs : List Bk} (h : okB bs = true) (k : Nat) (hk : k < bs.length) : tailB bs[k].ps = true := by
  simp only [okB, Bool.and_eq_true, List.all_eq_true] at h
  have := h.1.2 _ (List.getElem_mem hk)
  simp only [bkB, Bool.and_eq_true] at this
  exact this.2

/-- A block that there is, of ok blocks: where it lies. -/
theorem ok_at {w : World} {a : Option Addr} {bs : List Bk} (hf : FsAt w a bs) (h : okB bs = true) (k : Nat) (hk : k < 4) :
    ∃ fb fo pb po pc, a = some ⟨fb, fo, none⟩ ∧ w.cell? ⟨fb, fo + k * 2, none⟩ = some (.slice (some ⟨pb, po, none⟩) 4 pc) ∧ w.cell? ⟨fb, fo + k * 2 + 1, none⟩ = some (.int .i64 (bs[k]'(by have := ok_len h; omega)).wn) ∧ w.rangeAt pb po (psC (bs[k]'(by have := ok_len h; omega)).ps) := by
  have h4 := ok_len h
  have hb4 := (ok_fours h).at k (by omega)
  rcases hf with rfl | ⟨fb, fo, rfl, hf⟩
  · simp at h4
  · obtain ⟨pa, pc, c0, c1, hps⟩ := hf k (by omega)
    rcases hps with e | ⟨pb, po, rfl, hr⟩
    · rw [e] at hb4; simp at hb4
    · rw [hb4] at c0
      exact ⟨fb, fo, pb, po, pc, rfl, c0, c1, hr⟩

set_option maxHeartbeats 400000 in
theorem specClean_any (a : Option Addr) (cap : Nat) (blk : Int) (bs : List Bk) (w : World) (hf : FsAt w a bs) (hm : bs.length ≤ 1048576) :
    Calls Try.prog 58 #[.slice a bs.length cap, .int .i64 blk] w fun e w' => e = .returned (.int .i64 (cleanR bs blk)) ∧ Below w.heap.size w w' := by
  have HC := hide (specFlashOk_any a cap bs w hf hm)
  cases hs : okB bs
  · have HR : Hid (cleanR bs blk = -1) := by unfold cleanR; rw [hs]; rfl
    rw [hs] at HC
    clear hs hf
    go_enter Try.func58, Try.ntmps58
    go_wp2_with fail
    refine (unhide HC).mono ?_
    rintro e w1 ⟨rfl, b1⟩
    go_wp2
    go_ret
    exact ⟨by rw [unhide HR]; rfl, b1⟩
  · cases hb : inB blk 0 3
    · have HR : Hid (cleanR bs blk = -1) := by unfold cleanR; rw [hs, hb]; rfl
      have HI := hide (l6In_any blk 0 3)
      rw [hs] at HC
      rw [hb] at HI
      clear hs hf hb
      go_enter Try.func58, Try.ntmps58
      go_wp2_with fail
      refine (unhide HC).mono ?_
      rintro e w1 ⟨rfl, b1⟩
      go_wp2_with (go_at_call 80; refine (unhide HI _).mono ?_; rintro e w' ⟨rfl, rfl⟩)
      go_ret
      exact ⟨by rw [unhide HR]; rfl, b1⟩
    · obtain ⟨k, rfl, hk⟩ := in_range hb
      have h4 := ok_len hs
      have hkb : k < bs.length := by omega
      obtain ⟨fb, fo, pb, po, pc, rfl, c0, c1, hr⟩ := ok_at hf hs k hk
      have HR : Hid (cleanR bs (k : Int) = cleanN bs[k].ps) := by
        have h1 := clean_used bs[k].ps (ok_tail hs k hkb)
        rw [(ok_fours hs).at k hkb] at h1
        unfold cleanR; rw [hs, hb, Bool.and_true, if_pos rfl, Int.toNat_natCast, List.getD_eq_getElem?_getD, List.getElem?_eq_getElem hkb]
        show (4 : Int) - _ = _
        simp only [Option.getD_some]
        omega
      have hb4 := (ok_fours hs).at k hkb
      have HI := hide (l6In_any (k : Int) 0 3)
      rw [hs] at HC
      rw [hb] at HI
      have hlo : (0 : Int) ≤ (k : Int) := by omega
      have hhi : (k : Int) < 4 := by omega
      rw [h4] at HC ⊢
      generalize bs[k] = b at *
      clear hs hf hb h4
      go_enter Try.func58, Try.ntmps58
      go_wp2_with fail
      refine (unhide HC).mono ?_
      rintro e w1 ⟨rfl, b1⟩
      rw [← b1.cell (p := ⟨fb, fo + k * 2, none⟩) (cell_lt c0)] at c0
      rw [← b1.cell (p := ⟨fb, fo + k * 2 + 1, none⟩) (cell_lt c1)] at c1
      have hr1 := rangeAt_below hr b1 (cell_lt (PsAt.cells hr 0 (by omega)).1)
      clear hr
      go_wp2_with (go_at_call 80; refine (unhide HI _).mono ?_; rintro e w' ⟨rfl, hw'⟩; obtain rfl := hw'.symm)
      refine (l2Clean_any pb po pc b.ps b.wn _ hb4 hr1).mono ?_
      rintro e w2 ⟨rfl, b2⟩
      clear c0 c1 hr1
      go_wp2
      go_ret
      exact ⟨by rw [unhide HR]; rfl, b1.trans (b2.mono b1.size)⟩
end Go.Proofs.Ytcmklcfedeeahaa.SpecB

/-
  The specification's copy of blocks and its new blocks: in rows of their own.
-/
namespace Go.Proofs.Ytcmklcfedeeahaa.SpecC
open Go.ChangeShapes Go.WideShapes Go.ChangeAt Go.RowKit OkA Big Fl ImplB ImplF ImplS Own ImplT ImplU SpecA SpecB
set_option linter.unusedVariables false
set_option linter.unusedSimpArgs false
attribute [local go_sem ↓] Go.wp_at_zero Go.wp_at_succ

/-- A row of blocks that grows by append, its pages in rows of their own. -/
structure Grow (w : World) (lo : Nat) (v : Value) (G : List Nat) (ocs : List Value) (bs : List Bk) : Prop where
  row : w.ownsRow lo 102 2 v bs.length ocs
  own : ∀ g, v.ownBlock = some g → lo ≤ g ∧ g < w.heap.size ∧ g ∉ G
  len : G.length = bs.length
  nd : G.Nodup
  lo : ∀ x ∈ G, lo ≤ x
  hi : ∀ x ∈ G, x < w.heap.size
  out : ∀ i (hi : i < bs.length), ∃ cap, ocs[i * 2]? = some (.slice (some ⟨G[i]'(by omega), 0, none⟩) bs[i].ps.length cap)
  worn : ∀ i (hi : i < bs.length), ocs[i * 2 + 1]? = some (.int .i64 bs[i].wn)
  pgs : ∀ i (hi : i < bs.length), w.rangeAt (G[i]'(by omega)) 0 (psC bs[i].ps)
  free : ∀ i (hi : i < bs.length), w.there (G[i]'(by omega)) 0 (bs[i].ps.length * 5)

theorem ownsRow_below {w w' : World} {lo : Nat} {e : TypeId} {size : Nat} {v : Value} {n : Nat} {xs : List Value} (h : w.ownsRow lo e size v n xs) {B : Nat} (hb : Below B w w') (hg : ∀ g, v.ownBlock = some g → g < B) : w'.ownsRow lo e size v n xs := by
  obtain ⟨h1, h2⟩ := h
  refine ⟨h1, ?_⟩
  rcases h2 with h2 | ⟨g, cap, cur, rfl, hl, hh, r⟩
  · exact .inl h2
  · exact .inr ⟨g, cap, cur, rfl, hl, by rw [hb.block g (hg g rfl)]; exact hh, r⟩
theorem Grow.far {w w' : World} {lo : Nat} {v : Value} {G : List Nat} {ocs : List Value} {bs : List Bk} (h : Grow w lo v G ocs bs) {B : Nat} (hb : Below B w w') (hB : ∀ x, (x ∈ G ∨ v.ownBlock = some x) → x < B) : Grow w' lo v G ocs bs :=
  ⟨ownsRow_below h.row hb (fun g hg => hB g (.inr hg)), fun g hg => ⟨(h.own g hg).1, Nat.lt_of_lt_of_le (h.own g hg).2.1 hb.size, (h.own g hg).2.2⟩, h.len, h.nd, h.lo, fun x hx => Nat.lt_of_lt_of_le (h.hi x hx) hb.size, h.out, h.worn,
   fun i hi => rangeAt_below (h.pgs i hi) hb (hB _ (.inl (List.getElem_mem _))), fun i hi => there_below (h.free i hi) hb (hB _ (.inl (List.getElem_mem _)))⟩
theorem infoP : ∃ i, Try.prog.info? 75 = some i ∧ i.zero = some (.agg (pgC zPg).toArray) ∧ i.size = 5 ∧ i.bytes = 40 := by
  have h := made_ps
  cases hq : Try.prog.info? 75 with
  | none => rw [hq] at h; cases h
  | some i => rw [hq] at h; simp at h; exact ⟨i, rfl, h.1, h.2.1, h.2.2⟩
theorem infoB : ∃ i, Try.prog.info? 102 = some i ∧ i.zero = some (.agg #[.slice none 0 0, .int .i64 0]) ∧ i.size = 2 ∧ i.bytes = 32 := by
  have h := made_bs
  cases hq : Try.prog.info? 102 with
  | none => rw [hq] at h; cases h
  | some i => rw [hq] at h; simp at h; exact ⟨i, rfl, h.1, h.2.1, h.2.2⟩
theorem row_pages {w : World} {lo p cap n : Nat} {xs : List Value} {e : TypeId} {size : Nat} (hn : 0 < n) (h : w.ownsRow lo e size (.slice (some ⟨p, 0, none⟩) n cap) n xs) : w.rangeAt p 0 xs ∧ w.there p 0 (n * size) := by
  obtain ⟨h1, h2⟩ := h
  rcases h2 with ⟨h2, _⟩ | ⟨g, c, cur, hv, hl, hh, hnc, _, hs, ht⟩
  · cases h2
  · simp at hv
    obtain ⟨rfl, rfl⟩ := hv
    have hle : n * size ≤ cur.size := by rw [hs]; exact Nat.mul_le_mul_right _ hnc
    refine ⟨fun j v hv => ?_, fun j hj => ?_⟩
    · rw [Nat.zero_add, cell_of_row w p j cur e (0, 0) hh]
      rw [← ht, List.getElem?_take] at hv
      split at hv
      · simpa using hv
      · cases hv
    · rw [Nat.zero_add, cell_of_row w p j cur e (0, 0) hh]
      exact ⟨by rw [Array.getElem?_eq_getElem (by omega)]; rfl, frozen_of_row w p j cur e hh⟩

theorem Grow.alloc_drew {w : World} {lo : Nat} {v : Value} {G : List Nat} {ocs : List Value} {bs : List Bk} (h : Grow w lo v G ocs bs) (o : Obj) : Grow (w.drew.alloc o) lo v G ocs bs :=
  h.far (B := w.heap.size) ((Below.refl _ _).drew.alloc (Nat.le_refl _) o) (fun x hx => by
    rcases hx with hx | hx
    · exact h.hi x hx
    · exact (h.own x hx).2.1)
theorem ownB_lt {w : World} {lo : Nat} {v : Value} {G : List Nat} {ocs : List Value} {bs : List Bk} (h : Grow w lo v G ocs bs) : ∀ x, (x ∈ G ∨ v.ownBlock = some x) → x < w.heap.size := fun x hx => by
  rcases hx with hx | hx
  · exact h.hi x hx
  · exact (h.own x hx).2.1

theorem range_grown {w w' : World} {row : Option Nat} (hg : w.grownBy w' row) {b o : Nat} {cs : List Value} (hlt : b < w.heap.size) (hne : row ≠ some b) (h : w.rangeAt b o cs) : w'.rangeAt b o cs := fun j v hv => by
  rw [hg.cell_far ⟨b, o + j, none⟩ hlt (fun e => hne e.symm)]; exact h j v hv
theorem there_grown {w w' : World} {row : Option Nat} (hg : w.grownBy w' row) {b o n : Nat} (hlt : b < w.heap.size) (hne : row ≠ some b) (h : w.there b o n) : w'.there b o n := fun j hj => by
  rw [hg.cell_far ⟨b, o + j, none⟩ hlt (fun e => hne e.symm), hg.frozen_far ⟨b, o + j, none⟩ hlt (fun e => hne e.symm)]; exact h j hj
theorem Grow.push {wC wD : World} {lo : Nat} {v : Value} {G : List Nat} {ocs : List Value} {bs : List Bk} (h : Grow wC lo v G ocs bs) (p cap : Nat) (b : Bk) (hp : lo ≤ p) (hps : p < wC.heap.size) (hpG : p ∉ G) (hpv : v.ownBlock ≠ some p)
    (hr : wC.rangeAt p 0 (psC b.ps)) (ht : wC.there p 0 (b.ps.length * 5)) (g' cap' : Nat) (own : wD.ownsRow lo 102 2 (.slice (some ⟨g', 0, none⟩) (bs.length + 1) cap') (bs.length + 1) (ocs ++ [.slice (some ⟨p, 0, none⟩) b.ps.length cap, .int .i64 b.wn]))
    (grow : wC.grownBy wD v.ownBlock) (hat : v.ownBlock = some g' ∨ g' = wC.heap.size) (hlt : g' < wD.heap.size) (hlo : lo ≤ wC.heap.size) :
    Grow wD lo (.slice (some ⟨g', 0, none⟩) (bs.length + 1) cap') (G ++ [p]) (ocs ++ [.slice (some ⟨p, 0, none⟩) b.ps.length cap, .int .i64 b.wn]) (bs ++ [b]) := by
  have hlen := h.len
  have hol : ocs.length = bs.length * 2 := h.row.1
  have hGv : ∀ i (hi : i < bs.length), v.ownBlock ≠ some (G[i]'(by omega)) := fun i hi e => (h.own _ e).2.2 (List.getElem_mem _)
  have e1 : ∀ (q : bs.length < (G ++ [p]).length), (G ++ [p])[bs.length]'q = p := fun q => by rw [List.getElem_append_right (by omega)]; simp [hlen]
  have e2 : ∀ (q : bs.length < (bs ++ [b]).length), (bs ++ [b])[bs.length]'q = b := fun q => by rw [List.getElem_append_right (by omega)]; simp
  refine ⟨by simpa using own, fun g hg => ?_, by simp [hlen], ?_, ?_, ?_, ?_, ?_, ?_, ?_⟩
  · simp [Value.ownBlock] at hg
    subst hg
    rcases hat with e | rfl
    · obtain ⟨q1, q2, q3⟩ := h.own _ e
      exact ⟨q1, hlt, by simp; exact ⟨q3, fun e2 => hpv (by rw [e, e2])⟩⟩
    · exact ⟨hlo, hlt, by simp; exact ⟨fun hx => by have := h.hi _ hx; omega, by omega⟩⟩
  · exact List.nodup_append.2 ⟨h.nd, by simp, fun x hx y hy => by simp at hy; subst hy; intro e; subst e; exact hpG hx⟩
  · intro x hx
    rw [List.mem_append] at hx
    rcases hx with hx | hx
    · exact h.lo x hx
    · simp at hx; subst hx; exact hp
  · intro x hx
    rw [List.mem_append] at hx
    rcases hx with hx | hx
    · exact Nat.lt_of_lt_of_le (h.hi x hx) grow.size
    · simp at hx; subst hx; exact Nat.lt_of_lt_of_le hps grow.size
  · intro i hi
    simp only [List.length_append, List.length_singleton] at hi
    by_cases e : i < bs.length
    · obtain ⟨c, hc⟩ := h.out i e
      refine ⟨c, ?_⟩
      simp only [List.getElem_append_left e, List.getElem_append_left (show i < G.length by omega)]
      rw [List.getElem?_append_left (by omega)]; exact hc
    · obtain rfl : i = bs.length := by omega
      refine ⟨cap, ?_⟩
      simp only [e1, e2]
      rw [List.getElem?_append_right (by omega), hol, Nat.sub_self]; rfl
  · intro i hi
    simp only [List.length_append, List.length_singleton] at hi
    by_cases e : i < bs.length
    · simp only [List.getElem_append_left e]
      rw [List.getElem?_append_left (by omega)]; exact h.worn i e
    · obtain rfl : i = bs.length := by omega
      simp only [e2]
      rw [List.getElem?_append_right (by omega), hol, show bs.length * 2 + 1 - bs.length * 2 = 1 by omega]; rfl
  · intro i hi
    simp only [List.length_append, List.length_singleton] at hi
    by_cases e : i < bs.length
    · simp only [List.getElem_append_left e, List.getElem_append_left (show i < G.length by omega)]
      exact range_grown grow (h.hi _ (List.getElem_mem _)) (hGv i e) (h.pgs i e)
    · obtain rfl : i = bs.length := by omega
      simp only [e1, e2]
      exact range_grown grow hps hpv hr
  · intro i hi
    simp only [List.length_append, List.length_singleton] at hi
    by_cases e : i < bs.length
    · simp only [List.getElem_append_left e, List.getElem_append_left (show i < G.length by omega)]
      exact there_grown grow (h.hi _ (List.getElem_mem _)) (hGv i e) (h.free i e)
    · obtain rfl : i = bs.length := by omega
      simp only [e1, e2]
      exact there_grown grow hps hpv ht
theorem Grow.toOwn {w : World} {lo : Nat} {v : Value} {G : List Nat} {ocs : List Value} {bs : List Bk} (h : Grow w lo v G ocs bs) (hn : 0 < bs.length) : ∃ g cap, v = .slice (some ⟨g, 0, none⟩) bs.length cap ∧ Own w lo g G bs bs.length := by
  obtain ⟨g, cap, rfl, hg, hlt⟩ := h.row.form hn
  obtain ⟨rr, tt⟩ := row_pages hn h.row
  refine ⟨g, cap, rfl, h.len, ?_, ?_, ?_, Nat.le_refl _, tt, fun i hi => ?_, fun i hi => ?_, h.pgs, h.free⟩
  · exact List.nodup_cons.2 ⟨(h.own g rfl).2.2, h.nd⟩
  · intro x hx
    rcases List.mem_cons.1 hx with rfl | hx
    · exact hg
    · exact h.lo x hx
  · intro x hx
    rcases List.mem_cons.1 hx with rfl | hx
    · exact hlt
    · exact h.hi x hx
  · obtain ⟨c, hc⟩ := h.out i hi
    exact ⟨c, by have := rr _ _ hc; simpa using this⟩
  · have := rr _ _ (h.worn i hi); simpa using this

set_option maxHeartbeats 2000000 in
theorem copy_any (fb fo cap : Nat) (bs : List Bk) (w : World) (hF : Fours bs) (h4 : bs.length ≤ 4) (hf : ∀ i (hi : i < bs.length), BkAt w fb (fo + i * 2) bs[i]) (hn : 0 < bs.length) :
    Calls Try.prog 109 #[.slice (some ⟨fb, fo, none⟩) bs.length cap] w fun e w' => ∃ g G c, e = .returned (.slice (some ⟨g, 0, none⟩) bs.length c) ∧ Own w' w.heap.size g G bs bs.length ∧ Below w.heap.size w w' := by
  have HF := hide hf
  clear hf
  have hli : (bs.length : Int) ≤ 4 := by omega
  go_enter Try.func109, Try.ntmps109
  go_wp2
  have o1 : Grow (w.alloc (.cells #[] 102)) w.heap.size (.slice (some ⟨w.heap.size, 0, none⟩) 0 0) [] [] [] := by
    refine ⟨World.ownsRow_lit w #[] 0 (Nat.le_refl _) (by simp [maxLen]) rfl, fun g hg => ?_, rfl, by simp, by simp, by simp, fun i hi => by simp at hi, fun i hi => by simp at hi, fun i hi => by simp at hi, fun i hi => by simp at hi⟩
    simp [Value.ownBlock] at hg
    subst hg
    exact ⟨Nat.le_refl _, by simp, by simp⟩
  have b0 : Below w.heap.size w (w.alloc (.cells #[] 102)) := (Below.refl _ _).alloc (Nat.le_refl _) _
  generalize w.alloc (.cells #[] 102) = w1 at *
  go_loopw [3, 4] (fun v i w' => ∃ k : Nat, k ≤ bs.length ∧ i = .int .i64 k ∧ (∃ G ocs, Grow w' w.heap.size v G ocs (bs.take k)) ∧ Below w.heap.size w w') (fun _ i _ => bs.length - (intOf i).toNat)
  case atStart => exact ⟨0, by omega, rfl, ⟨[], [], by simpa using o1⟩, b0⟩
  case round =>
    obtain ⟨k, hk, rfl, ⟨G, ocs, ok⟩, bw⟩ := hrel
    clear o1 b0
    by_cases h0 : k = bs.length
    · subst h0
      rw [List.take_of_length_le (Nat.le_refl _)] at ok
      obtain ⟨g, c, rfl, o⟩ := ok.toOwn hn
      go_wp2
      go_ret
      exact ⟨g, G, c, rfl, o, bw⟩
    · have hlt : (k : Int) < (bs.length : Int) := by omega
      have hkb : k < bs.length := by omega
      have hlo : (0 : Int) ≤ (k : Int) := by omega
      have hb4 : bs[k].ps.length = 4 := hF.at k hkb
      obtain ⟨pa, pc, c0w, c1w, hpsw⟩ := unhide HF k hkb
      have lfw := cell_lt c0w
      obtain ⟨pb, po, rfl, hrw⟩ : ∃ pb po, pa = some ⟨pb, po, none⟩ ∧ w.rangeAt pb po (psC bs[k].ps) := by
        rcases hpsw with h | h
        · rw [h] at hb4; simp at hb4
        · exact h
      rw [hb4] at c0w
      have hr := rangeAt_below hrw bw (cell_lt (PsAt.cells hrw 0 (by omega)).1)
      have c0 := c0w
      have c1 := c1w
      rw [← bw.cell (p := ⟨fb, fo + k * 2, none⟩) lfw] at c0
      rw [← bw.cell (p := ⟨fb, fo + k * 2 + 1, none⟩) lfw] at c1
      have lf := cell_lt c0
      have HT := hide (List.take_succ_eq_append_getElem hkb)
      have tl : (bs.take k).length = k := by simp; omega
      have hlp : (psC bs[k].ps).length = 4 * 5 := by rw [len_psC, hb4]
      clear c0w c1w hpsw hrw
      generalize bs[k] = b at *
      go_wp2_with fail
      refine wp_region_noPanic ?_
      refine wp_region_held_drew (S := fun w' => w'.cell? ⟨fb, fo + k * 2, none⟩ = some (.slice (some ⟨pb, po, none⟩) 4 pc) ∧ w'.cell? ⟨fb, fo + k * 2 + 1, none⟩ = some (.int .i64 b.wn)) (by kernel_rfl) (⟨by simpa using c0, by simpa using c1⟩) (fun hHeld => ?_)
      refine takeL 0 (u3) rfl (by kernel_rfl) (by kernel_rfl) (by kernel_rfl) (fun _ _ _ h => h) (Or.inl ⟨rfl, fun _ _ => rfl⟩) hHeld ?_
      try simp only [Act.put, List.setIfInBounds_toArray, List.set_cons_zero, List.set_cons_succ]
      refine takeL 2 (.slice (some ⟨fb, fo, none⟩) bs.length cap) rfl (by kernel_rfl) (by kernel_rfl) (by kernel_rfl) (fun _ _ _ h => h) (Or.inl ⟨rfl, fun _ _ => rfl⟩) hHeld ?_
      try simp only [Act.put, List.setIfInBounds_toArray, List.set_cons_zero, List.set_cons_succ]
      refine takeL 3 (.int .i64 k) rfl (by kernel_rfl) (by kernel_rfl) (by kernel_rfl) (fun _ _ _ h => h) (Or.inl ⟨rfl, fun _ _ => rfl⟩) hHeld ?_
      try simp only [Act.put, List.setIfInBounds_toArray, List.set_cons_zero, List.set_cons_succ]
      refine takeL 4 (.pointer (some ⟨fb, fo + k * 2, none⟩)) rfl (by kernel_rfl) (by kernel_rfl) (by kernel_rfl) (fun _ _ _ h => h) (Or.inl ⟨rfl, fun w9 hSw => by go_simp⟩) hHeld ?_
      try simp only [Act.put, List.setIfInBounds_toArray, List.set_cons_zero, List.set_cons_succ]
      refine takeL 5 (.pointer (some ⟨fb, fo + k * 2, none⟩)) rfl (by kernel_rfl) (by kernel_rfl) (by kernel_rfl) (fun _ _ _ h => h) (Or.inl ⟨rfl, fun w9 hSw => by go_simp⟩) hHeld ?_
      try simp only [Act.put, List.setIfInBounds_toArray, List.set_cons_zero, List.set_cons_succ]
      refine takeL 6 (.slice (some ⟨pb, po, none⟩) 4 pc) rfl (by kernel_rfl) (by kernel_rfl) (by kernel_rfl) (fun _ _ _ h => h) (Or.inl ⟨rfl, fun w9 hSw => by have hc := hSw.1; go_simp⟩) hHeld ?_
      try simp only [Act.put, List.setIfInBounds_toArray, List.set_cons_zero, List.set_cons_succ]
      refine takeL 8 (.slice (some ⟨fb, fo, none⟩) bs.length cap) rfl (by kernel_rfl) (by kernel_rfl) (by kernel_rfl) (fun _ _ _ h => h) (Or.inl ⟨rfl, fun _ _ => rfl⟩) hHeld ?_
      try simp only [Act.put, List.setIfInBounds_toArray, List.set_cons_zero, List.set_cons_succ]
      refine takeL 9 (.int .i64 k) rfl (by kernel_rfl) (by kernel_rfl) (by kernel_rfl) (fun _ _ _ h => h) (Or.inl ⟨rfl, fun _ _ => rfl⟩) hHeld ?_
      try simp only [Act.put, List.setIfInBounds_toArray, List.set_cons_zero, List.set_cons_succ]
      refine takeL 10 (.pointer (some ⟨fb, fo + k * 2, none⟩)) rfl (by kernel_rfl) (by kernel_rfl) (by kernel_rfl) (fun _ _ _ h => h) (Or.inl ⟨rfl, fun w9 hSw => by go_simp⟩) hHeld ?_
      try simp only [Act.put, List.setIfInBounds_toArray, List.set_cons_zero, List.set_cons_succ]
      refine takeL 11 (.pointer (some ⟨fb, fo + k * 2 + 1, none⟩)) rfl (by kernel_rfl) (by kernel_rfl) (by kernel_rfl) (fun _ _ _ h => h) (Or.inl ⟨rfl, fun w9 hSw => by go_simp⟩) hHeld ?_
      try simp only [Act.put, List.setIfInBounds_toArray, List.set_cons_zero, List.set_cons_succ]
      refine takeL 12 (.int .i64 b.wn) rfl (by kernel_rfl) (by kernel_rfl) (by kernel_rfl) (fun _ _ _ h => h) (Or.inl ⟨rfl, fun w9 hSw => by have hc := hSw.2; go_simp⟩) hHeld ?_
      try simp only [Act.put, List.setIfInBounds_toArray, List.set_cons_zero, List.set_cons_succ]
      refine oneL 1 rfl (by kernel_rfl) rfl (fun K hK => ?_)
      go_simp
      refine hK.out _ _ ⟨by show (wr.alloc _).cell? _ = _; rw [World.cell?_alloc_lt _ _ _ lf]; exact c0, by show (wr.alloc _).cell? _ = _; rw [World.cell?_alloc_lt _ _ _ lf]; exact c1⟩ (fun hHeld => ?_)
      clear hK K
      try simp only [Act.put, List.setIfInBounds_toArray, List.set_cons_zero, List.set_cons_succ]
      have hold := ownB_lt ok
      have hrA : (wr.alloc (.cells #[] 75)).drew.rangeAt pb po (psC b.ps) := by simpa using World.rangeAt_alloc hr (.cells #[] 75)
      have oA := ok.far (((Below.refl wr.heap.size wr).alloc (Nat.le_refl _) (.cells #[] 75)).drew) hold
      have BA : Below w.heap.size w (wr.alloc (.cells #[] 75)).drew := (bw.alloc bw.size _).drew
      have rowA : (wr.alloc (.cells #[] 75)).drew.ownsRow wr.heap.size 75 5 (.slice (some ⟨wr.heap.size, 0, none⟩) 0 0) 0 [] := World.ownsRow_lit wr #[] 0 (Nat.le_refl _) (by simp [maxLen]) rfl
      have sA : (wr.alloc (.cells #[] 75)).drew.heap.size = wr.heap.size + 1 := by simp
      generalize (wr.alloc (.cells #[] 75)).drew = wA at *
      refine oneL 7 rfl (by kernel_rfl) rfl (fun K hK => ?_)
      obtain ⟨iP, hiP, hzP, hsP, hbP⟩ := infoP
      refine wp_append_lies wA _ _ 100 rfl wr.heap.size 75 iP (.agg (pgC zPg).toArray) 5 40 Try.underlying100 hiP hzP hsP hbP rfl (by omega) _ 0 [] rfl rowA ⟨pb, po, none⟩ 4 pc (psC b.ps) rfl hlp (src_mid hrA) (one_psC b.ps) (by omega) (by simp [maxLen]) (by omega) (by omega) _ rfl ?_
      intro p pcap wB ownB growB atB ltB
      have pB : wr.heap.size ≤ p := by
        rcases atB with h | h
        · have : wr.heap.size = p := Option.some.inj h
          omega
        · omega
      have hww := bw.size
      have GB : Below wr.heap.size wA wB := (Below.refl _ _).grown growB (by omega) (fun q hq => by have : wr.heap.size = q := Option.some.inj hq; omega)
      refine hK.out _ _ ⟨by rw [GB.cell (p := ⟨fb, fo + k * 2, none⟩) lf]; exact hHeld.1, by rw [GB.cell (p := ⟨fb, fo + k * 2 + 1, none⟩) lf]; exact hHeld.2⟩ (fun hHeld => ?_)
      clear hK K
      try simp only [Act.put, List.setIfInBounds_toArray, List.set_cons_zero, List.set_cons_succ]
      have oB := oA.far GB hold
      have BB := BA.trans (GB.mono bw.size)
      obtain ⟨rB, tB⟩ := row_pages (by omega) ownB
      clear ownB growB rowA oA GB hrA BA
      refine takeL 13 (.agg #[.slice (some ⟨p, 0, none⟩) 4 pcap, .int .i64 b.wn]) rfl (by kernel_rfl) (by kernel_rfl) (by kernel_rfl) (fun _ _ _ h => h) (Or.inl ⟨rfl, fun w9 hSw => by go_simp⟩) hHeld ?_
      try simp only [Act.put, List.setIfInBounds_toArray, List.set_cons_zero, List.set_cons_succ]
      refine oneL 14 rfl (by kernel_rfl) rfl (fun K hK => ?_)
      go_simp
      refine hK.out _ _ ⟨by rw [World.cell?_alloc_lt _ _ _ (by show fb < _; omega)]; exact hHeld.1, by rw [World.cell?_alloc_lt _ _ _ (by show fb < _; omega)]; exact hHeld.2⟩ (fun hHeld => ?_)
      clear hK K
      try simp only [Act.put, List.setIfInBounds_toArray, List.set_cons_zero, List.set_cons_succ]
      have oC := oB.far (B := wB.heap.size) ((Below.refl _ _).alloc (Nat.le_refl _) (.cells #[.slice (some ⟨p, 0, none⟩) 4 pcap, .int .i64 b.wn] 102)) (fun x hx => by have := hold x hx; omega)
      have BC := BB.alloc BB.size (.cells #[.slice (some ⟨p, 0, none⟩) 4 pcap, .int .i64 b.wn] 102)
      have rC := World.rangeAt_alloc rB (.cells #[.slice (some ⟨p, 0, none⟩) 4 pcap, .int .i64 b.wn] 102)
      have tC := World.there_alloc tB (.cells #[.slice (some ⟨p, 0, none⟩) 4 pcap, .int .i64 b.wn] 102)
      have nC := World.news_of_block (heap_alloc_new wB (.cells #[.slice (some ⟨p, 0, none⟩) 4 pcap, .int .i64 b.wn] 102))
      have sC : (wB.alloc (.cells #[.slice (some ⟨p, 0, none⟩) 4 pcap, .int .i64 b.wn] 102)).heap.size = wB.heap.size + 1 := by simp
      have sB := BB.size
      generalize wB.alloc (.cells #[.slice (some ⟨p, 0, none⟩) 4 pcap, .int .i64 b.wn] 102) = wC at *
      clear oB rB tB
      refine oneL 15 rfl (by kernel_rfl) rfl (fun K hK => ?_)
      obtain ⟨iB, hiB, hzB, hsB, hbB⟩ := infoB
      refine wp_append_lies wC _ _ 22 rfl w.heap.size 102 iB (.agg #[.slice none 0 0, .int .i64 0]) 2 32 Try.underlying22 hiB hzB hsB hbB rfl (by omega) u3 k ocs rfl (by have := oC.row; rw [tl] at this; exact this) ⟨wB.heap.size, 0, none⟩ 1 1 [.slice (some ⟨p, 0, none⟩) 4 pcap, .int .i64 b.wn] rfl rfl nC (by intro u hu; simp at hu; rcases hu with rfl | rfl <;> rfl) (by omega) (by simp [maxLen]; omega) (by omega) (by omega) _ rfl ?_
      intro g' cap' wD ownD growD atD ltD
      have oD := oC.push p pcap b (by omega) (by omega) (fun h => by have := hold p (.inl h); omega) (fun h => by have := hold p (.inr h); omega) rC (by rw [hb4]; exact tC) g' cap' (by rw [tl, hb4]; exact ownD) growD atD ltD (by omega)
      have GD : Below w.heap.size wC wD := (Below.refl _ _).grown growD (by omega) (fun q hq => (oC.own q hq).1)
      have BD := BC.trans GD
      refine hK.out _ _ ⟨by rw [GD.cell (p := ⟨fb, fo + k * 2, none⟩) lfw]; exact hHeld.1, by rw [GD.cell (p := ⟨fb, fo + k * 2 + 1, none⟩) lfw]; exact hHeld.2⟩ (fun hHeld => ?_)
      clear hK K
      try simp only [Act.put, List.setIfInBounds_toArray, List.set_cons_zero, List.set_cons_succ]
      refine takeL 16 (.slice (some ⟨g', 0, none⟩) (k + 1) cap') rfl (by kernel_rfl) (by kernel_rfl) (by kernel_rfl) (fun _ _ _ h => h) (Or.inl ⟨rfl, fun _ _ => rfl⟩) hHeld ?_
      try simp only [Act.put, List.setIfInBounds_toArray, List.set_cons_zero, List.set_cons_succ]
      refine wpAnyH_done (by kernel_rfl) ?_ _
      refine NoPanic.normal ?_
      clear growD ownD GD oC BC rC tC nC c0 c1 hr ok
      go_wp2
      go_roundw
      case rel => exact ⟨k + 1, by omega, by first | rfl | go_num, ⟨G ++ [p], _, by rw [unhide HT]; rw [tl] at oD; exact oD⟩, BD⟩
      case measure => simp [intOf]; omega
end Go.Proofs.Ytcmklcfedeeahaa.SpecC

/-
  All blocks of memory but some stand as they stood. Nothing here speaks of the program.
-/
namespace Go.Proofs.Ytcmklcfedeeahaa.Kp
open Go.ChangeShapes Go.WideShapes Go.ChangeAt Go.RowKit
set_option linter.unusedVariables false
set_option linter.unusedSimpArgs false

/-- But for the blocks of L the world w' has what w had; the streams are as they were; no block has gone. -/
structure Kept (L : List Nat) (w w' : World) : Prop where
  os : w'.os = w.os
  tape : w'.tape = w.tape
  output : w'.output = w.output
  size : w.heap.size ≤ w'.heap.size
  block : ∀ k, k < w.heap.size → k ∉ L → w'.heap[k]? = w.heap[k]?
variable {L M : List Nat} {u v w w' : World}
theorem Kept.refl (L : List Nat) (w : World) : Kept L w w := ⟨rfl, rfl, rfl, Nat.le_refl _, fun _ _ _ => rfl⟩
theorem Kept.of (h : Below w.heap.size w w') : Kept L w w' := ⟨h.os, h.tape, h.output, h.size, fun k hk _ => h.block k hk⟩
theorem Kept.trans (h : Kept L u v) (g : Kept L v w) : Kept L u w :=
  ⟨g.os.trans h.os, g.tape.trans h.tape, g.output.trans h.output, Nat.le_trans h.size g.size, fun k hk hn => (g.block k (Nat.lt_of_lt_of_le hk h.size) hn).trans (h.block k hk hn)⟩
/-- New blocks need not be named. -/
theorem Kept.less (h : Kept L w w') (hs : ∀ x ∈ L, x ∈ M ∨ w.heap.size ≤ x) : Kept M w w' :=
  ⟨h.os, h.tape, h.output, h.size, fun k hk hn => h.block k hk (fun hm => (hs k hm).elim hn (fun hg => by omega))⟩
theorem Kept.sub (h : Kept L w w') (hs : ∀ x ∈ L, x ∈ M) : Kept M w w' := h.less fun x hx => .inl (hs x hx)
/-- A step behind others that turned new blocks besides. -/
theorem Kept.then (h : Kept L u v) (g : Kept M v w) (hs : ∀ x ∈ M, x ∈ L ∨ u.heap.size ≤ x) : Kept L u w :=
  ⟨g.os.trans h.os, g.tape.trans h.tape, g.output.trans h.output, Nat.le_trans h.size g.size, fun k hk hn => (g.block k (Nat.lt_of_lt_of_le hk h.size) (fun hm => (hs k hm).elim hn (fun hg => by omega))).trans (h.block k hk hn)⟩
theorem Kept.below (h : Kept L w w') {B : Nat} (hL : ∀ x ∈ L, B ≤ x) (hB : B ≤ w.heap.size) : Below B w w' :=
  ⟨h.os, h.tape, h.output, h.size, fun k hk => h.block k (by omega) (fun hm => by have := hL k hm; omega)⟩
theorem Kept.all (h : Kept L w w') (hL : ∀ x ∈ L, w.heap.size ≤ x) : Below w.heap.size w w' := h.below hL (Nat.le_refl _)
theorem Kept.drew (h : Kept L u w) : Kept L u w.drew := ⟨h.os, h.tape, h.output, h.size, h.block⟩
theorem Kept.alloc (h : Kept L u w) (o : Obj) : Kept L u (w.alloc o) := h.trans (.of ((Below.refl _ _).alloc (Nat.le_refl _) o))
theorem Kept.setCell (h : Kept L u w) {p : Addr} (hp : p.block ∈ L ∨ u.heap.size ≤ p.block) (x : Value) : Kept L u (w.setCell p x) :=
  h.then (M := [p.block]) ⟨rfl, rfl, rfl, by simp [World.setCell], fun k hk hn => Below.heap_setCell _ _ _ _ (by simpa using hn)⟩ (fun y hy => by simp at hy; subst hy; exact hp)
theorem Kept.setCells (h : Kept L u w) {b : Nat} (hp : b ∈ L ∨ u.heap.size ≤ b) (o : Nat) (vs : List Value) : Kept L u (w.setCells b o vs) := by
  induction vs generalizing w o with
  | nil => exact h
  | cons x r ih => exact ih (h.setCell (p := ⟨b, o, none⟩) hp x) (o + 1)
theorem Kept.grown {row : Option Nat} (h : Kept L u w) (hg : w.grownBy w' row) (hr : ∀ k, row = some k → k ∈ L ∨ u.heap.size ≤ k) : Kept L u w' :=
  h.then (M := row.toList) ⟨hg.os, hg.tape, hg.output, hg.size, fun k hk hn => hg.block k hk (fun e => hn (by rw [← e]; simp))⟩ (fun y hy => hr y (by cases row <;> simp_all))
theorem Kept.cell (h : Kept L w w') {b : Nat} (o : Nat) (hb : b < w.heap.size) (hn : b ∉ L) : w'.cell? ⟨b, o, none⟩ = w.cell? ⟨b, o, none⟩ := World.cell?_of_block (w := w) (h.block b hb hn)
theorem Kept.frozen (h : Kept L w w') {b : Nat} (o : Nat) (hb : b < w.heap.size) (hn : b ∉ L) : w'.frozen? ⟨b, o, none⟩ = w.frozen? ⟨b, o, none⟩ := World.frozen?_of_block (w := w) (h.block b hb hn)
theorem Kept.range (h : Kept L w w') {b o : Nat} {cs : List Value} (hr : w.rangeAt b o cs) (hb : b < w.heap.size) (hn : b ∉ L) : w'.rangeAt b o cs := fun j x hx => by rw [h.cell _ hb hn]; exact hr j x hx
theorem Kept.there (h : Kept L w w') {b o n : Nat} (hr : w.there b o n) (hb : b < w.heap.size) (hn : b ∉ L) : w'.there b o n := fun j hj => by rw [h.cell _ hb hn, h.frozen _ hb hn]; exact hr j hj
theorem Kept.row (h : Kept L w w') {base : Nat} {e : TypeId} {size n : Nat} {x : Value} {xs : List Value} (hr : w.ownsRow base e size x n xs) (hn : ∀ b, x.ownBlock = some b → b ∉ L) : w'.ownsRow base e size x n xs := by
  obtain ⟨h1, h2⟩ := hr
  refine ⟨h1, ?_⟩
  rcases h2 with h2 | ⟨g, cap, cur, rfl, hg, hh, r⟩
  · exact .inl h2
  · have hlt : g < w.heap.size := by
      by_cases hb : g < w.heap.size
      · exact hb
      · have : w.heap[g]? = none := by simp; omega
        rw [this] at hh; cases hh
    exact .inr ⟨g, cap, cur, rfl, hg, by rw [h.block g hlt (hn g rfl)]; exact hh, r⟩
end Go.Proofs.Ytcmklcfedeeahaa.Kp

/-
  The specification's search for a number, and its writing on blocks that it owns.
-/
namespace Go.Proofs.Ytcmklcfedeeahaa.SpecD
open Go.ChangeShapes Go.WideShapes Go.ChangeAt Go.RowKit OkA Big Fl ImplB ImplF ImplS Own ImplT ImplU SpecA SpecB SpecC Kp
set_option linter.unusedVariables false
set_option linter.unusedSimpArgs false
attribute [local go_sem ↓] Go.wp_at_zero Go.wp_at_succ

def hasB (bs : List Bk) (q : Int) : Bool := (seqs bs).contains q
set_option maxHeartbeats 1000000 in
theorem seq_any (fb fo cap : Nat) (bs : List Bk) (q : Int) (w : World) (hF : Fours bs) (h4 : bs.length = 4) (hf : ∀ i (hi : i < bs.length), BkAt w fb (fo + i * 2) bs[i]) :
    Calls Try.prog 139 #[.slice (some ⟨fb, fo, none⟩) 4 cap, .int .i64 q] w fun e w' => e = .returned (.bool (hasB bs q)) ∧ w' = w := by
  have HF := hide hf
  clear hf
  go_enter Try.func139, Try.ntmps139
  go_wp2
  go_loop [5] (fun i => ∃ k : Nat, k ≤ 4 ∧ i = .int .i64 k ∧ Hid (q ∉ seqs (bs.take k))) (fun i => 4 - (intOf i).toNat)
  case atStart => exact ⟨0, by omega, rfl, by simp [Hid, seqs]⟩
  case round =>
    obtain ⟨k, hk, rfl, hnd⟩ := hrel
    by_cases h0 : k = 4
    · subst h0
      have HN := hide (show hasB bs q = false by unfold hasB; have := hnd.out; rw [List.take_of_length_le (by omega)] at this; simpa using this)
      go_wp2
      go_ret
      exact ⟨by rw [unhide HN]; rfl, rfl⟩
    · have hlt : (k : Int) < 4 := by omega
      have hkb : k < bs.length := by omega
      have hlo : (0 : Int) ≤ (k : Int) := by omega
      have hb4 : bs[k].ps.length = 4 := hF.at k hkb
      obtain ⟨pa, pc, c0, c1, hps⟩ := unhide HF k hkb
      obtain ⟨pb, po, rfl, hr⟩ : ∃ pb po, pa = some ⟨pb, po, none⟩ ∧ w.rangeAt pb po (psC bs[k].ps) := by
        rcases hps with h | h
        · rw [h] at hb4; simp at hb4
        · exact h
      rw [hb4] at c0
      have HR := hide hr
      have HSP := hide (seqs_split bs k hkb)
      have HST := hide (seqs_take bs k hkb)
      clear hps hr c1
      generalize bs[k] = b at *
      go_wp2
      go_loop [6] (fun i => ∃ j : Nat, j ≤ 4 ∧ i = .int .i64 j ∧ Hid (q ∉ seqsP (b.ps.take j))) (fun i => 4 - (intOf i).toNat)
      case atStart => exact ⟨0, by omega, rfl, by simp [Hid, seqsP]⟩
      case round =>
        obtain ⟨j, hj, rfl, hnj⟩ := hrel
        by_cases h0 : j = 4
        · subst h0
          go_wp2
          go_round
          case rel =>
            refine ⟨k + 1, by omega, by first | rfl | go_num, ?_⟩
            show q ∉ _
            rw [unhide HST]; have := hnj.out; rw [List.take_of_length_le (l := b.ps) (by omega)] at this
            have h2 := hnd.out
            simp only [List.mem_append]; exact fun h => h.elim h2 this
          case measure => simp [intOf]; omega
        · have hjt : (j : Int) < 4 := by omega
          have hjb : j < b.ps.length := by omega
          have hjo : (0 : Int) ≤ (j : Int) := by omega
          obtain ⟨d0, _, d2, _, _⟩ := PsAt.cells (unhide HR) j hjb
          have HSQ := hide (seqsP_take b.ps j hjb)
          have HDW := hide (drop_w b.ps j hjb)
          generalize b.ps[j] = p at *
          by_cases hp1 : p.st = 1
          · by_cases hpq : p.s = q
            · have g1 : (p.st == 1) = true := by simpa using hp1
              have g2 : (p.s == q) = true := by simpa using hpq
              have hp1h := hide hp1
              have hpqh := hide hpq
              clear hp1 hpq
              go_wp2
              have HN := hide (show hasB bs q = true from by
                unfold hasB
                rw [unhide HSP j, unhide HDW (unhide hp1h), unhide hpqh]
                simp)
              go_ret
              exact ⟨by rw [unhide HN]; rfl, rfl⟩
            · have g1 : (p.st == 1) = true := by simpa using hp1
              have g2 : (p.s == q) = false := by simpa using hpq
              have hp1h := hide hp1
              have hpqh := hide hpq
              clear hp1 hpq
              go_wp2
              go_round
              case rel =>
                have e : seqsP (b.ps.take (j + 1)) = seqsP (b.ps.take j) ++ [p.s] := by rw [unhide HSQ, seqP_w (unhide hp1h)]; rfl
                refine ⟨j + 1, by omega, by first | rfl | go_num, ?_⟩
                show q ∉ _
                rw [e]
                have h2 := hnj.out
                have h3 := unhide hpqh
                simp only [List.mem_append, List.mem_singleton]
                exact fun h => h.elim h2 (fun h => h3 h.symm)
              case measure => simp [intOf]; omega
          · have hp1' : (p.st == 1) = false := by simpa using hp1
            have hp1h := hide hp1
            clear hp1
            go_wp2
            go_round
            case rel =>
              have e : seqsP (b.ps.take (j + 1)) = seqsP (b.ps.take j) := by rw [unhide HSQ, seqP_n (unhide hp1h)]; simp
              exact ⟨j + 1, by omega, by first | rfl | go_num, by rw [e]; exact hnj⟩
            case measure => simp [intOf]; omega

/-! A page is laid over a page. -/
theorem Own.page {w : World} {lo g n : Nat} {G : List Nat} {bs : List Bk} (h : Own w lo g G bs n) (k : Nat) (hk : k < bs.length) (j : Nat) (hj : j < bs[k].ps.length) (p : Pg) :
    Own (w.setCells (G[k]'(by have := h.len; omega)) (j * 5) (pgC p)) lo g G (bs.set k ⟨bs[k].ps.set j p, bs[k].wn⟩) n := by
  have hlen := h.len
  have hGg : ∀ i (hi : i < G.length), G[i] ≠ g := fun i hi e => (List.nodup_cons.1 h.nd).1 (e ▸ List.getElem_mem hi)
  have hGG : ∀ i (hi : i < G.length), i ≠ k → G[i] ≠ G[k]'(by omega) := fun i hi hne e => by
    have hp := List.pairwise_iff_getElem.1 (List.nodup_cons.1 h.nd).2
    rcases Nat.lt_or_gt_of_ne hne with q | q
    · exact hp i k hi (by omega) q e
    · exact hp k i (by omega) hi q e.symm
  have tk : w.there (G[k]'(by omega)) (0 + j * 5) 5 := there_sub (h.free k hk) (j * 5) 5 (by omega)
  refine ⟨by simp [hlen], h.nd, h.lo, fun x hx => by rw [size_setCells]; exact h.hi x hx, by simpa using h.fit, World.there_setCells h.room _ _ _, fun i hi => ?_, fun i hi => ?_, fun i hi => ?_, fun i hi => ?_⟩
  · simp only [List.length_set] at hi
    obtain ⟨c, hc⟩ := h.out i hi
    refine ⟨c, ?_⟩
    rw [cell_setCells_ne (.inl (hGg k (by omega)).symm), hc]
    by_cases e : i = k
    · subst e; simp
    · rw [List.getElem_set_ne (fun q => e q.symm)]
  · simp only [List.length_set] at hi
    rw [cell_setCells_ne (.inl (hGg k (by omega)).symm), h.worn i hi]
    by_cases e : i = k
    · subst e; simp
    · rw [List.getElem_set_ne (fun q => e q.symm)]
  · simp only [List.length_set] at hi
    by_cases e : i = k
    · subst e
      simp only [List.getElem_set_self]
      have := range_set pgC 5 (fun _ _ => rfl) j hj p rfl (h.pgs i hk) tk
      rw [Nat.zero_add] at this
      exact this
    · rw [List.getElem_set_ne (fun q => e q.symm)]
      exact World.rangeAt_setCells_apart (h.pgs i hi) _ _ _ (.inl (hGG i (by omega) e))
  · simp only [List.length_set] at hi
    by_cases e : i = k
    · subst e
      simp only [List.getElem_set_self, List.length_set]
      exact World.there_setCells (h.free i hk) _ _ _
    · rw [List.getElem_set_ne (fun q => e q.symm)]
      exact World.there_setCells (h.free i hi) _ _ _

def pgW (torn : Bool) (rk rs ra rv : Int) : Pg := if torn then ⟨2, 0, 0, 0, 0⟩ else ⟨1, rk, rs, ra, rv⟩
def wrL (bs : List Bk) (k : Nat) (p : Pg) : List Bk := bs.set k ⟨(bs.getD k zBk).ps.set (usedN (bs.getD k zBk).ps) p, (bs.getD k zBk).wn⟩
/-- No page is clean, or the number is there. -/
def wrN (bs : List Bk) (k : Nat) (rs : Int) : Bool := usedN (bs.getD k zBk).ps == 4 || hasB bs rs
def WrPost (w : World) (lo g cap : Nat) (G : List Nat) (bs : List Bk) (k : Nat) (torn : Bool) (rk rs ra rv : Int) (e : Ending) (w' : World) : Prop :=
  e = .returned (.tuple #[.slice (some ⟨g, 0, none⟩) 4 cap, .bool (!wrN bs k rs)]) ∧ Own w' lo g G (if wrN bs k rs then bs else wrL bs k (pgW torn rk rs ra rv)) 4 ∧ Kept (g :: G) w w'
theorem size_pg (p : Pg) : (Try.prog.info? 75).map (·.size) = some (pgC p).length := by rw [len_pgC]; kernel_rfl
theorem size_pga (p : Pg) : (Try.prog.info? 75).map (·.size) = some (pgC p).toArray.size := by rw [List.size_toArray, len_pgC]; kernel_rfl
theorem one_pg (p : Pg) : (pgC p).toArray.all (·.oneCell') = true := all_oneCell_toArray (one_pgC p)

set_option maxRecDepth 100000 in
set_option maxHeartbeats 2000000 in
theorem write_any (lo g cap : Nat) (G : List Nat) (bs : List Bk) (k : Nat) (torn : Bool) (rk rs ra rv : Int) (w : World) (o : Own w lo g G bs 4) (hok : okB bs = true) (hk : k < 4) :
    Calls Try.prog 108 #[.slice (some ⟨g, 0, none⟩) 4 cap, .int .i64 k, .agg #[.int .i64 rk, .int .i64 rs, .int .i64 ra, .int .i64 rv], .bool torn] w fun e w' => WrPost w lo g cap G bs k torn rk rs ra rv e w' := by
  have h4 := ok_len hok
  have hF := ok_fours hok
  have hkb : k < bs.length := by omega
  have hb4 := hF.at k hkb
  have hcu := clean_used bs[k].ps (ok_tail hok k hkb)
  have hgd : bs.getD k zBk = bs[k] := by rw [List.getD_eq_getElem?_getD, List.getElem?_eq_getElem hkb]; rfl
  have b0 : Below w.heap.size w (w.alloc (.cells #[.int .i64 rk, .int .i64 rs, .int .i64 ra, .int .i64 rv] 59)) := (Below.refl _ _).alloc (Nat.le_refl _) _
  have o0 := o.below b0 (Nat.le_refl _)
  obtain ⟨pc, c0⟩ := o0.out k hkb
  have c1 := o0.worn k hkb
  have rk0 := o0.pgs k hkb
  have hlen := o0.len
  have hGk := o0.hi (G[k]'(by omega)) (by simp)
  have hgk : g ≠ G[k]'(by omega) := fun e => (List.nodup_cons.1 o0.nd).1 (e ▸ List.getElem_mem _)
  rw [hb4] at c0 hcu
  have hki : (k : Int) < 4 := by omega
  have hk0 : (0 : Int) ≤ (k : Int) := by omega
  have c2 : (w.alloc (.cells #[.int .i64 rk, .int .i64 rs, .int .i64 ra, .int .i64 rv] 59)).rangeAt w.heap.size 0 [.int .i64 rk, .int .i64 rs, .int .i64 ra, .int .i64 rv] := rangeAt_new w _ _
  have hwlt : w.heap.size < (w.alloc (.cells #[.int .i64 rk, .int .i64 rs, .int .i64 ra, .int .i64 rv] 59)).heap.size := by simp
  have HCL := hide (fun w' => l2Clean_any (G[k]'(by omega)) 0 pc bs[k].ps bs[k].wn w' hb4)
  have HN1 : Hid (usedN bs[k].ps = 4 → wrN bs k rs = true) := fun h => by unfold wrN; rw [hgd, h]; rfl
  have HN2 : Hid (hasB bs rs = true → wrN bs k rs = true) := fun h => by unfold wrN; rw [h, Bool.or_true]
  have HN3 : Hid (¬ usedN bs[k].ps = 4 → hasB bs rs = false → wrN bs k rs = false) := fun h h' => by unfold wrN; rw [hgd, h', Bool.or_false]; simpa using h
  have HPG := hide (fun (x : World) (ox : Own x lo g G bs 4) (hu : usedN bs[k].ps < bs[k].ps.length) (p : Pg) => Own.page ox k hkb (usedN bs[k].ps) hu p)
  have HWL : Hid (∀ p, wrL bs k p = bs.set k ⟨bs[k].ps.set (usedN bs[k].ps) p, bs[k].wn⟩) := fun p => by unfold wrL; rw [hgd]
  have HTK := hide (fun (x : World) (ox : Own x lo g G bs 4) => ox.free k hkb)
  have HC0 := hide (fun (x : World) (hb : Below (w.alloc (.cells #[.int .i64 rk, .int .i64 rs, .int .i64 ra, .int .i64 rv] 59)).heap.size (w.alloc (.cells #[.int .i64 rk, .int .i64 rs, .int .i64 ra, .int .i64 rv] 59)) x) => (hb.cell (p := ⟨g, k * 2, none⟩) (o0.hi g (by simp))).trans c0)
  clear o hok
  generalize hGe : G[k]'(by omega) = gk at *
  generalize hbe : bs[k] = b at *
  have HGM : Hid (gk ∈ g :: G) := hGe ▸ (List.mem_cons_of_mem _ (List.getElem_mem _))
  have hgl : lo ≤ gk := hGe ▸ o0.lo _ (List.mem_cons_of_mem _ (List.getElem_mem _))
  have hgl2 : lo ≤ g := o0.lo g (by simp)
  have hg0 := o0.hi g (by simp)
  have HGE := hide hGe
  clear hGe hbe hgd
  have hcl : (cleanN b.ps : Int) ≤ 4 := by omega
  go_enter Try.func108, Try.ntmps108
  go_wp2_with fail
  refine (unhide HCL _ rk0).mono ?_
  rintro e w1 ⟨rfl, b1⟩
  generalize w.alloc (.cells #[.int .i64 rk, .int .i64 rs, .int .i64 ra, .int .i64 rv] 59) = w0 at *
  have o1 := o0.below b1 (Nat.le_refl _)
  have r1 := rangeAt_below c2 b1 hwlt
  have d0 := unhide HC0 w1 b1
  have e0 := r1 0 _ rfl
  have e1 := r1 1 _ rfl
  have e2 := r1 2 _ rfl
  have e3 := r1 3 _ rfl
  simp only [Nat.zero_add] at e0 e1 e2 e3
  have B1 : Kept (g :: G) w w1 := (Kept.of b0).trans (Kept.of b1)
  have s1 := b1.size
  have hww := b0.size
  clear c0 c1 rk0 c2 b1 HCL r1 o0 b0
  by_cases hz : usedN b.ps = 4
  · have hc : ((cleanN b.ps : Int) == 0) = true := by simp; omega
    have HW := hide (unhide HN1 hz)
    clear hz hcu
    go_wp2
    go_ret2
    refine ⟨by rw [unhide HW]; rfl, ?_, B1⟩
    rw [if_pos (unhide HW)]; exact o1
  have hc : ((cleanN b.ps : Int) == 0) = false := by simp; omega
  have hsq := seq_any g 0 cap bs rs w1 hF h4 (by
    rcases o1.fs with h | ⟨b', o', h1, h2⟩
    · rw [h] at h4; simp at h4
    · simp at h1; obtain ⟨rfl, rfl⟩ := h1; exact h2)
  have HS := hide hsq
  clear hsq
  cases hh : hasB bs rs
  rotate_left
  · have HW := hide (unhide HN2 hh)
    rw [hh] at HS
    clear hh
    go_wp2_with (go_at_call 139; refine (unhide HS).mono ?_; rintro e w' ⟨rfl, hw'⟩; obtain rfl := hw'.symm)
    go_ret2
    refine ⟨by rw [unhide HW]; rfl, ?_, B1⟩
    rw [if_pos (unhide HW)]; exact o1
  have HW := hide (unhide HN3 hz hh)
  rw [hh] at HS
  have hu4 : usedN b.ps < b.ps.length := by have := usedN_le b.ps; omega
  have HU : Hid ((4 : Int) - (cleanN b.ps : Int) = (usedN b.ps : Int)) := by show _ = _; omega
  have HWR : Hid (IntKind.i64.wrap (4 - (cleanN b.ps : Int)) = (usedN b.ps : Int)) := by show _ = _; rw [IntKind.wrap_i64]; omega
  have hu0 : (0 : Int) ≤ (usedN b.ps : Int) := by omega
  have hui : (usedN b.ps : Int) < 4 := by omega
  have hcl0 : (0 : Int) ≤ (cleanN b.ps : Int) := by omega
  clear hh hz hcu
  generalize cleanN b.ps = cl at *
  cases torn
  · go_wp2_with (go_at_call 139; refine (unhide HS).mono ?_; rintro e w' ⟨rfl, hw'⟩; obtain rfl := hw'.symm)
    have hcs : #[Value.int .i64 1, .int .i64 rk, .int .i64 rs, .int .i64 ra, .int .i64 rv] = (pgC ⟨1, rk, rs, ra, rv⟩).toArray := rfl
    rw [hcs]
    clear hcs
    have ba : Below w1.heap.size w1 (w1.alloc (.cells (pgC ⟨1, rk, rs, ra, rv⟩).toArray 75)) := (Below.refl _ _).alloc (Nat.le_refl _) _
    have rp := rangeAt_new w1 (pgC ⟨1, rk, rs, ra, rv⟩) 75
    have o2 := o1.below ba (Nat.le_refl _)
    have op := unhide HPG _ (o2.below ((Below.refl _ _).drew) (Nat.le_refl _)) hu4 ⟨1, rk, rs, ra, rv⟩
    have tk0 := unhide HTK _ o2
    simp only [unhide HGE] at op tk0
    have c0 := d0
    rw [← ba.cell (p := ⟨g, k * 2, none⟩) (by show g < _; omega)] at c0
    have tk : (w1.alloc (.cells (pgC ⟨1, rk, rs, ra, rv⟩).toArray 75)).there gk (usedN b.ps * 5) (pgC ⟨1, rk, rs, ra, rv⟩).toArray.size := by have := there_sub tk0 (usedN b.ps * 5) 5 (by omega); rw [Nat.zero_add] at this; exact this
    have B2 := B1.alloc (.cells (pgC ⟨1, rk, rs, ra, rv⟩).toArray 75)
    rw [← unhide HWL] at op
    have HI5 := hide (size_pga ⟨1, rk, rs, ra, rv⟩)
    have HI6 := hide (size_pg ⟨1, rk, rs, ra, rv⟩)
    have o5 := one_pg ⟨1, rk, rs, ra, rv⟩
    have hpgs : gk < w1.heap.size := by omega
    clear o2 tk0 ba o1 d0 e0 e1 e2 e3 HPG HTK
    generalize usedN b.ps = u at *
    generalize hP : pgC ⟨1, rk, rs, ra, rv⟩ = pcs at *
    clear hP
    generalize w1.alloc (.cells pcs.toArray 75) = w2 at *
    generalize w1.heap.size = pb at *
    have tkd : w2.drew.there gk (u * 5) pcs.toArray.size := (World.there_drew _ _ _ _).2 tk
    refine wp_region_noPanic ?_
    refine wp_region_held_drew (S := fun w' => w'.cell? ⟨g, k * 2, none⟩ = some (.slice (some ⟨gk, 0, none⟩) 4 pc) ∧ w'.rangeAt pb 0 pcs) (by kernel_rfl) (⟨by simpa using c0, by simpa using rp⟩) (fun hHeld => ?_)
    refine takeL 0 (.slice (some ⟨g, 0, none⟩) 4 cap) rfl (by kernel_rfl) (by kernel_rfl) (by kernel_rfl) (fun _ _ _ h => h) (Or.inl ⟨rfl, fun _ _ => rfl⟩) hHeld ?_
    try simp only [Act.put, List.setIfInBounds_toArray, List.set_cons_zero, List.set_cons_succ]
    refine takeL 1 (.int .i64 k) rfl (by kernel_rfl) (by kernel_rfl) (by kernel_rfl) (fun _ _ _ h => h) (Or.inl ⟨rfl, fun _ _ => rfl⟩) hHeld ?_
    try simp only [Act.put, List.setIfInBounds_toArray, List.set_cons_zero, List.set_cons_succ]
    refine takeL 2 (.pointer (some ⟨g, k * 2, none⟩)) rfl (by kernel_rfl) (by kernel_rfl) (by kernel_rfl) (fun _ _ _ h => h) (Or.inl ⟨rfl, fun w9 hSw => by go_simp⟩) hHeld ?_
    try simp only [Act.put, List.setIfInBounds_toArray, List.set_cons_zero, List.set_cons_succ]
    refine takeL 3 (.pointer (some ⟨g, k * 2, none⟩)) rfl (by kernel_rfl) (by kernel_rfl) (by kernel_rfl) (fun _ _ _ h => h) (Or.inl ⟨rfl, fun w9 hSw => by go_simp⟩) hHeld ?_
    try simp only [Act.put, List.setIfInBounds_toArray, List.set_cons_zero, List.set_cons_succ]
    refine takeL 4 (.slice (some ⟨gk, 0, none⟩) 4 pc) rfl (by kernel_rfl) (by kernel_rfl) (by kernel_rfl) (fun _ _ _ h => h) (Or.inl ⟨rfl, fun w9 hSw => by have hc := hSw.1; go_simp⟩) hHeld ?_
    try simp only [Act.put, List.setIfInBounds_toArray, List.set_cons_zero, List.set_cons_succ]
    refine takeL 5 (.int .i64 (cl : Int)) rfl (by kernel_rfl) (by kernel_rfl) (by kernel_rfl) (fun _ _ _ h => h) (Or.inl ⟨rfl, fun _ _ => rfl⟩) hHeld ?_
    try simp only [Act.put, List.setIfInBounds_toArray, List.set_cons_zero, List.set_cons_succ]
    refine takeL 6 (.int .i64 (u : Int)) rfl (by kernel_rfl) (by kernel_rfl) (by kernel_rfl) (fun _ _ _ h => h) (Or.inl ⟨rfl, fun w9 hSw => by have he := unhide HWR; go_simp⟩) hHeld ?_
    try simp only [Act.put, List.setIfInBounds_toArray, List.set_cons_zero, List.set_cons_succ]
    refine takeL 7 (_) rfl (by kernel_rfl) (by kernel_rfl) (by kernel_rfl) (fun _ _ _ h => h) (yieldsIf_load_mid rfl 75 _ rfl pb 0 rfl pcs _ (fun _ h => h.2) Try.underlying75 rfl (unhide HI6)) hHeld ?_
    try simp only [Act.put, List.setIfInBounds_toArray, List.set_cons_zero, List.set_cons_succ]
    refine takeL 8 (.pointer (some ⟨gk, u * 5, none⟩)) rfl (by kernel_rfl) (by kernel_rfl) (by kernel_rfl) (fun _ _ _ h => h) (Or.inl ⟨rfl, fun w9 hSw => by go_simp⟩) hHeld ?_
    try simp only [Act.put, List.setIfInBounds_toArray, List.set_cons_zero, List.set_cons_succ]
    refine oneL 9 rfl (by kernel_rfl) rfl (fun K hK => ?_)
    refine wp_store_mid 75 _ _ rfl gk (u * 5) pcs.toArray rfl rfl tkd (unhide HI5) o5 ?_
    refine hK.out _ _ ⟨by rw [cell_setCells_ne (.inl (by omega))]; exact hHeld.1, World.rangeAt_setCells_apart hHeld.2 _ _ _ (.inl (by omega))⟩ (fun hHeld => ?_)
    clear hK K
    try simp only [Act.put, List.setIfInBounds_toArray, List.set_cons_zero, List.set_cons_succ]
    refine wpAnyH_done (by kernel_rfl) ?_ _
    refine NoPanic.normal ?_
    go_wp2
    go_ret2
    refine ⟨by rw [unhide HW]; rfl, ?_, B2.drew.setCells (.inl (unhide HGM)) _ _⟩
    rw [if_neg (by rw [unhide HW]; simp)]
    exact op
  · go_wp2_with (go_at_call 139; refine (unhide HS).mono ?_; rintro e w' ⟨rfl, hw'⟩; obtain rfl := hw'.symm)
    have hcs : #[Value.int .i64 2, .int .i64 0, .int .i64 0, .int .i64 0, .int .i64 0] = (pgC ⟨2, 0, 0, 0, 0⟩).toArray := rfl
    rw [hcs]
    clear hcs
    have ba : Below w1.heap.size w1 (w1.alloc (.cells (pgC ⟨2, 0, 0, 0, 0⟩).toArray 75)) := (Below.refl _ _).alloc (Nat.le_refl _) _
    have rp := rangeAt_new w1 (pgC ⟨2, 0, 0, 0, 0⟩) 75
    have o2 := o1.below ba (Nat.le_refl _)
    have op := unhide HPG _ (o2.below ((Below.refl _ _).drew) (Nat.le_refl _)) hu4 ⟨2, 0, 0, 0, 0⟩
    have tk0 := unhide HTK _ o2
    simp only [unhide HGE] at op tk0
    have c0 := d0
    rw [← ba.cell (p := ⟨g, k * 2, none⟩) (by show g < _; omega)] at c0
    have tk : (w1.alloc (.cells (pgC ⟨2, 0, 0, 0, 0⟩).toArray 75)).there gk (usedN b.ps * 5) (pgC ⟨2, 0, 0, 0, 0⟩).toArray.size := by have := there_sub tk0 (usedN b.ps * 5) 5 (by omega); rw [Nat.zero_add] at this; exact this
    have B2 := B1.alloc (.cells (pgC ⟨2, 0, 0, 0, 0⟩).toArray 75)
    rw [← unhide HWL] at op
    have HI5 := hide (size_pga ⟨2, 0, 0, 0, 0⟩)
    have HI6 := hide (size_pg ⟨2, 0, 0, 0, 0⟩)
    have o5 := one_pg ⟨2, 0, 0, 0, 0⟩
    have hpgs : gk < w1.heap.size := by omega
    clear o2 tk0 ba o1 d0 e0 e1 e2 e3 HPG HTK
    generalize usedN b.ps = u at *
    generalize hP : pgC ⟨2, 0, 0, 0, 0⟩ = pcs at *
    clear hP
    generalize w1.alloc (.cells pcs.toArray 75) = w2 at *
    generalize w1.heap.size = pb at *
    have tkd : w2.drew.there gk (u * 5) pcs.toArray.size := (World.there_drew _ _ _ _).2 tk
    refine wp_region_noPanic ?_
    refine wp_region_held_drew (S := fun w' => w'.cell? ⟨g, k * 2, none⟩ = some (.slice (some ⟨gk, 0, none⟩) 4 pc) ∧ w'.rangeAt pb 0 pcs) (by kernel_rfl) (⟨by simpa using c0, by simpa using rp⟩) (fun hHeld => ?_)
    refine takeL 0 (.slice (some ⟨g, 0, none⟩) 4 cap) rfl (by kernel_rfl) (by kernel_rfl) (by kernel_rfl) (fun _ _ _ h => h) (Or.inl ⟨rfl, fun _ _ => rfl⟩) hHeld ?_
    try simp only [Act.put, List.setIfInBounds_toArray, List.set_cons_zero, List.set_cons_succ]
    refine takeL 1 (.int .i64 k) rfl (by kernel_rfl) (by kernel_rfl) (by kernel_rfl) (fun _ _ _ h => h) (Or.inl ⟨rfl, fun _ _ => rfl⟩) hHeld ?_
    try simp only [Act.put, List.setIfInBounds_toArray, List.set_cons_zero, List.set_cons_succ]
    refine takeL 2 (.pointer (some ⟨g, k * 2, none⟩)) rfl (by kernel_rfl) (by kernel_rfl) (by kernel_rfl) (fun _ _ _ h => h) (Or.inl ⟨rfl, fun w9 hSw => by go_simp⟩) hHeld ?_
    try simp only [Act.put, List.setIfInBounds_toArray, List.set_cons_zero, List.set_cons_succ]
    refine takeL 3 (.pointer (some ⟨g, k * 2, none⟩)) rfl (by kernel_rfl) (by kernel_rfl) (by kernel_rfl) (fun _ _ _ h => h) (Or.inl ⟨rfl, fun w9 hSw => by go_simp⟩) hHeld ?_
    try simp only [Act.put, List.setIfInBounds_toArray, List.set_cons_zero, List.set_cons_succ]
    refine takeL 4 (.slice (some ⟨gk, 0, none⟩) 4 pc) rfl (by kernel_rfl) (by kernel_rfl) (by kernel_rfl) (fun _ _ _ h => h) (Or.inl ⟨rfl, fun w9 hSw => by have hc := hSw.1; go_simp⟩) hHeld ?_
    try simp only [Act.put, List.setIfInBounds_toArray, List.set_cons_zero, List.set_cons_succ]
    refine takeL 5 (.int .i64 (cl : Int)) rfl (by kernel_rfl) (by kernel_rfl) (by kernel_rfl) (fun _ _ _ h => h) (Or.inl ⟨rfl, fun _ _ => rfl⟩) hHeld ?_
    try simp only [Act.put, List.setIfInBounds_toArray, List.set_cons_zero, List.set_cons_succ]
    refine takeL 6 (.int .i64 (u : Int)) rfl (by kernel_rfl) (by kernel_rfl) (by kernel_rfl) (fun _ _ _ h => h) (Or.inl ⟨rfl, fun w9 hSw => by have he := unhide HWR; go_simp⟩) hHeld ?_
    try simp only [Act.put, List.setIfInBounds_toArray, List.set_cons_zero, List.set_cons_succ]
    refine takeL 7 (_) rfl (by kernel_rfl) (by kernel_rfl) (by kernel_rfl) (fun _ _ _ h => h) (yieldsIf_load_mid rfl 75 _ rfl pb 0 rfl pcs _ (fun _ h => h.2) Try.underlying75 rfl (unhide HI6)) hHeld ?_
    try simp only [Act.put, List.setIfInBounds_toArray, List.set_cons_zero, List.set_cons_succ]
    refine takeL 8 (.pointer (some ⟨gk, u * 5, none⟩)) rfl (by kernel_rfl) (by kernel_rfl) (by kernel_rfl) (fun _ _ _ h => h) (Or.inl ⟨rfl, fun w9 hSw => by go_simp⟩) hHeld ?_
    try simp only [Act.put, List.setIfInBounds_toArray, List.set_cons_zero, List.set_cons_succ]
    refine oneL 9 rfl (by kernel_rfl) rfl (fun K hK => ?_)
    refine wp_store_mid 75 _ _ rfl gk (u * 5) pcs.toArray rfl rfl tkd (unhide HI5) o5 ?_
    refine hK.out _ _ ⟨by rw [cell_setCells_ne (.inl (by omega))]; exact hHeld.1, World.rangeAt_setCells_apart hHeld.2 _ _ _ (.inl (by omega))⟩ (fun hHeld => ?_)
    clear hK K
    try simp only [Act.put, List.setIfInBounds_toArray, List.set_cons_zero, List.set_cons_succ]
    refine wpAnyH_done (by kernel_rfl) ?_ _
    refine NoPanic.normal ?_
    go_wp2
    go_ret2
    refine ⟨by rw [unhide HW]; rfl, ?_, B2.drew.setCells (.inl (unhide HGM)) _ _⟩
    rw [if_neg (by rw [unhide HW]; simp)]
    exact op
/-- What FlashWrite answers. -/
def wrR (bs : List Bk) (blk : Int) (rk rs ra rv : Int) (torn : Bool) : List Bk :=
  if okB bs && inB blk 0 3 && recB rk rs ra rv then (if wrN bs blk.toNat rs then bs else wrL bs blk.toNat (pgW torn rk rs ra rv)) else []
def wrB (bs : List Bk) (blk : Int) (rk rs ra rv : Int) : Bool := okB bs && inB blk 0 3 && recB rk rs ra rv && !wrN bs blk.toNat rs
def OutPost (w : World) (R : List Bk) (ok : Bool) (e : Ending) (w' : World) : Prop := ∃ v, e = .returned (.tuple #[v, .bool ok]) ∧ NewFs w' w.heap.size v R ∧ Below w.heap.size w w'
end Go.Proofs.Ytcmklcfedeeahaa.SpecD

/-
  The specification's wiping of a block.
-/
namespace Go.Proofs.Ytcmklcfedeeahaa.SpecW
open Go.ChangeShapes Go.WideShapes Go.ChangeAt Go.RowKit OkA Big Fl ImplB ImplF ImplS Own ImplT ImplU SpecA SpecB SpecC SpecD Kp
set_option linter.unusedVariables false
set_option linter.unusedSimpArgs false

section
variable {w : World} {lo g n : Nat} {G : List Nat} {bs : List Bk}
theorem apart (h : Own w lo g G bs n) (k : Nat) (hk : k < G.length) : ∀ i (hi : i < G.length), i ≠ k → G[i] ≠ G[k] := fun i hi hne e => by
  have hp := List.pairwise_iff_getElem.1 (List.nodup_cons.1 h.nd).2
  rcases Nat.lt_or_gt_of_ne hne with q | q
  · exact hp i k hi hk q e
  · exact hp k i hk hi q e.symm
theorem outer (h : Own w lo g G bs n) : ∀ i (hi : i < G.length), G[i] ≠ g := fun i hi e => (List.nodup_cons.1 h.nd).1 (e ▸ List.getElem_mem hi)
/-- Pages are laid over pages. -/
theorem pages (h : Own w lo g G bs n) (k : Nat) (hk : k < bs.length) (ps : List Pg) (hl : ps.length = bs[k].ps.length) :
    Own (w.setCells (G[k]'(by have := h.len; omega)) 0 (psC ps)) lo g G (bs.set k ⟨ps, bs[k].wn⟩) n := by
  have hlen := h.len
  have hGg := outer h
  have hGG := apart h k (by omega)
  have tk : w.there (G[k]'(by omega)) 0 (psC ps).length := by rw [len_psC, hl]; exact h.free k hk
  refine ⟨by simp [hlen], h.nd, h.lo, fun x hx => by rw [size_setCells]; exact h.hi x hx, by simpa using h.fit, World.there_setCells h.room _ _ _, fun i hi => ?_, fun i hi => ?_, fun i hi => ?_, fun i hi => ?_⟩
  · simp only [List.length_set] at hi
    obtain ⟨c, hc⟩ := h.out i hi
    refine ⟨c, ?_⟩
    rw [cell_setCells_ne (.inl (hGg k (by omega)).symm), hc]
    by_cases e : i = k
    · subst e; simp [hl]
    · rw [List.getElem_set_ne (fun q => e q.symm)]
  · simp only [List.length_set] at hi
    rw [cell_setCells_ne (.inl (hGg k (by omega)).symm), h.worn i hi]
    by_cases e : i = k
    · subst e; simp
    · rw [List.getElem_set_ne (fun q => e q.symm)]
  · simp only [List.length_set] at hi
    by_cases e : i = k
    · subst e
      simp only [List.getElem_set_self]
      intro j v hv
      obtain ⟨hj, rfl⟩ := List.getElem?_eq_some_iff.1 hv
      exact cell_setCells_eq tk j hj
    · rw [List.getElem_set_ne (fun q => e q.symm)]
      exact World.rangeAt_setCells_apart (h.pgs i hi) _ _ _ (.inl (hGG i (by omega) e))
  · simp only [List.length_set] at hi
    refine World.there_setCells ?_ _ _ _
    by_cases e : i = k
    · subst e
      simp only [List.getElem_set_self, hl]
      exact h.free i hk
    · rw [List.getElem_set_ne (fun q => e q.symm)]
      exact h.free i hi
/-- A number of wipings is laid over a number. -/
theorem wear (h : Own w lo g G bs n) (k : Nat) (hk : k < bs.length) (wn : Int) :
    Own (w.setCells g (k * 2 + 1) [.int .i64 wn]) lo g G (bs.set k ⟨bs[k].ps, wn⟩) n := by
  have hlen := h.len
  have hGg := outer h
  have hfit := h.fit
  have tg : w.there g (k * 2 + 1) 1 := by
    have := there_sub h.room (k * 2 + 1) 1 (by omega)
    simpa using this
  have hps : ∀ i (hi : i < bs.length), ((bs.set k ⟨bs[k].ps, wn⟩)[i]'(by simpa using hi)).ps = bs[i].ps := fun i hi => by
    by_cases e : i = k
    · subst e; simp
    · rw [List.getElem_set_ne (fun q => e q.symm)]
  refine ⟨by simp [hlen], h.nd, h.lo, fun x hx => by rw [size_setCells]; exact h.hi x hx, by simpa using h.fit, World.there_setCells h.room _ _ _, fun i hi => ?_, fun i hi => ?_, fun i hi => ?_, fun i hi => ?_⟩
  · simp only [List.length_set] at hi
    obtain ⟨c, hc⟩ := h.out i hi
    exact ⟨c, by rw [cell_setCells_ne (.inr (by simp; omega)), hc, hps i hi]⟩
  · simp only [List.length_set] at hi
    by_cases e : i = k
    · subst e
      have := cell_setCells_eq (vs := [.int .i64 wn]) tg 0 (by simp)
      simpa using this
    · rw [cell_setCells_ne (.inr (by simp; omega)), List.getElem_set_ne (fun q => e q.symm)]
      exact h.worn i hi
  · simp only [List.length_set] at hi
    rw [hps i hi]
    exact World.rangeAt_setCells_apart (h.pgs i hi) _ _ _ (.inl (hGg i (by omega)))
  · simp only [List.length_set] at hi
    rw [hps i hi]
    exact World.there_setCells (h.free i hi) _ _ _
end
theorem setCells_app (b : Nat) : ∀ (x y : List Value) (d : Nat) (w : World), w.setCells b d (x ++ y) = (w.setCells b d x).setCells b (d + x.length) y
  | [], _, _, _ => rfl
  | v :: r, y, d, w => by
    simp only [List.cons_append, World.setCells, List.length_cons]
    rw [setCells_app b r y (d + 1), show d + 1 + r.length = d + (r.length + 1) by omega]

def pgS (torn : Bool) : Pg := ⟨if torn then 2 else 0, 0, 0, 0, 0⟩
def wiB (b : Bk) (torn : Bool) : Bk := ⟨List.replicate 4 (pgS torn), b.wn + 1⟩
def wiL (bs : List Bk) (k : Nat) (torn : Bool) : List Bk := bs.set k (wiB (bs.getD k zBk) torn)
def wiN (bs : List Bk) (k : Nat) : Bool := decide (200 ≤ (bs.getD k zBk).wn)
def WiPost (w : World) (lo g cap : Nat) (G : List Nat) (bs : List Bk) (k : Nat) (torn : Bool) (e : Ending) (w' : World) : Prop :=
  e = .returned (.tuple #[.slice (some ⟨g, 0, none⟩) 4 cap, .bool (!wiN bs k)]) ∧ Own w' lo g G (if wiN bs k then bs else wiL bs k torn) 4 ∧ Kept (g :: G) w w'
theorem wipe_step (w : World) (gb j : Nat) (p : Pg) : w.setCells gb 0 (psC (List.replicate (j + 1) p)) = (w.setCells gb 0 (psC (List.replicate j p))).setCells gb (j * 5) (pgC p) := by
  have e : psC (List.replicate (j + 1) p) = psC (List.replicate j p) ++ pgC p := by rw [List.replicate_succ']; simp [psC]
  rw [e, setCells_app, len_psC, List.length_replicate, Nat.zero_add]
theorem ok_worn {bs : List Bk} (h : okB bs = true) (k : Nat) (hk : k < bs.length) : 0 ≤ bs[k].wn ∧ bs[k].wn ≤ 200 := by
  simp only [okB, Bool.and_eq_true, List.all_eq_true] at h
  have := h.1.2 bs[k] (List.getElem_mem hk)
  simp only [bkB, Bool.and_eq_true, inB, decide_eq_true_eq] at this
  exact this.1.1.2

set_option maxRecDepth 100000 in
set_option maxHeartbeats 1000000 in
theorem wipe_any (lo g cap : Nat) (G : List Nat) (bs : List Bk) (k : Nat) (torn : Bool) (w : World) (o : Own w lo g G bs 4) (hok : okB bs = true) (hk : k < 4) :
    Calls Try.prog 112 #[.slice (some ⟨g, 0, none⟩) 4 cap, .int .i64 k, .bool torn] w fun e w' => WiPost w lo g cap G bs k torn e w' := by
  have h4 := ok_len hok
  have hF := ok_fours hok
  have hkb : k < bs.length := by omega
  have hb4 := hF.at k hkb
  obtain ⟨hw0, hw2⟩ := ok_worn hok k hkb
  have hgd : bs.getD k zBk = bs[k] := by rw [List.getD_eq_getElem?_getD, List.getElem?_eq_getElem hkb]; rfl
  have hlen := o.len
  obtain ⟨pc, c0⟩ := o.out k hkb
  have c1 := o.worn k hkb
  rw [hb4] at c0
  have hki : (k : Int) < 4 := by omega
  have hk0 : (0 : Int) ≤ (k : Int) := by omega
  have hgk : g ≠ G[k]'(by omega) := fun e => outer o k (by omega) e.symm
  have hgl2 : lo ≤ g := o.lo g (by simp)
  have hgl : lo ≤ G[k]'(by omega) := o.lo _ (List.mem_cons_of_mem _ (List.getElem_mem _))
  have f1 : w.frozen? ⟨g, k * 2 + 1, none⟩ = false := by
    have := (o.room (k * 2 + 1) (by omega)).2
    rwa [Nat.zero_add] at this
  have OW := hide (wear o k hkb (bs[k].wn + 1))
  have OP : Hid (Own ((w.setCells g (k * 2 + 1) [.int .i64 (bs[k].wn + 1)]).setCells (G[k]'(by omega)) 0 (psC (List.replicate 4 (pgS torn)))) lo g G (wiL bs k torn) 4) := by
    have := pages (unhide OW) k (by simpa using hkb) (List.replicate 4 (pgS torn)) (by simp [hb4])
    simp only [List.getElem_set_self, List.set_set] at this
    unfold wiL wiB; rw [hgd]; exact this
  have HTK := hide (World.there_setCells (o.free k hkb) g (k * 2 + 1) [.int .i64 (bs[k].wn + 1)])
  rw [hb4] at HTK
  have HN : Hid (wiN bs k = decide (200 ≤ bs[k].wn)) := by unfold wiN; rw [hgd]; rfl
  have HP : Hid (∀ t : Bool, (pgC (pgS t)) = [.int .i64 (if t then 2 else 0), .int .i64 0, .int .i64 0, .int .i64 0, .int .i64 0]) := fun t => rfl
  clear hok hF OW hgd
  have HGM : Hid (G[k]'(by omega) ∈ g :: G) := List.mem_cons_of_mem _ (List.getElem_mem _)
  generalize G[k]'(by omega) = gk at *
  generalize bs[k] = b at *
  go_enter Try.func112, Try.ntmps112
  by_cases hw : 200 ≤ b.wn
  · have HW : Hid (wiN bs k = true) := by show _ = _; rw [unhide HN]; simpa using hw
    go_wp2
    go_ret2
    refine ⟨by rw [unhide HW]; rfl, ?_, Kept.refl _ _⟩
    rw [if_pos (unhide HW)]; exact o
  · have HW : Hid (wiN bs k = false) := by show _ = _; rw [unhide HN]; simpa using hw
    have hC0 : (w.setCells g (k * 2 + 1) [.int .i64 (b.wn + 1)]).cell? ⟨g, k * 2, none⟩ = some (.slice (some ⟨gk, 0, none⟩) 4 pc) := by rw [cell_setCells_ne (.inr (.inl (by omega)))]; exact c0
    have B1 := (Kept.refl (g :: G) w).setCells (b := g) (.inl (by simp)) (k * 2 + 1) [.int .i64 (b.wn + 1)]
    have hsc : w.setCells g (k * 2 + 1) [.int .i64 (b.wn + 1)] = w.setCell ⟨g, k * 2 + 1, none⟩ (.int .i64 (b.wn + 1)) := rfl
    rw [hsc] at hC0 B1 OP HTK
    clear hsc HN
    cases torn
    · go_wp2
      clear o c0 c1 f1
      generalize w.setCell ⟨g, k * 2 + 1, none⟩ (.int .i64 (b.wn + 1)) = w1 at *
      go_loopw [9] (fun i w' => ∃ j : Nat, j ≤ 4 ∧ i = .int .i64 j ∧ Hid (w' = w1.setCells gk 0 (psC (List.replicate j (pgS false))))) (fun i _ => 4 - (intOf i).toNat)
      case atStart => exact ⟨0, by omega, rfl, rfl⟩
      case round =>
        obtain ⟨j, hj, rfl, hwr⟩ := hrel
        by_cases h0 : j = 4
        · subst h0
          go_wp2
          go_ret2
          refine ⟨by rw [unhide HW]; rfl, ?_, ?_⟩
          · rw [if_neg (by rw [unhide HW]; simp), unhide hwr]; exact unhide OP
          · rw [unhide hwr]; exact B1.setCells (.inl (unhide HGM)) _ _
        · have hlt : (j : Int) < 4 := by omega
          have hlo : (0 : Int) ≤ (j : Int) := by omega
          have HS := hide (wipe_step w1 gk j (pgS false))
          rw [← unhide hwr] at HS
          have D0 : wr.cell? ⟨g, k * 2, none⟩ = some (.slice (some ⟨gk, 0, none⟩) 4 pc) := by rw [unhide hwr, cell_setCells_ne (.inl hgk)]; exact hC0
          have T0 : wr.there gk (j * 5) 5 := by
            rw [unhide hwr]
            have := there_sub (World.there_setCells (unhide HTK) gk 0 (psC (List.replicate j (pgS false)))) (j * 5) 5 (by omega)
            rwa [Nat.zero_add] at this
          clear hwr
          obtain ⟨v0, x0⟩ := Option.isSome_iff_exists.1 (T0 0 (by omega)).1
          obtain ⟨v1, x1⟩ := Option.isSome_iff_exists.1 (T0 1 (by omega)).1
          obtain ⟨v2, x2⟩ := Option.isSome_iff_exists.1 (T0 2 (by omega)).1
          obtain ⟨v3, x3⟩ := Option.isSome_iff_exists.1 (T0 3 (by omega)).1
          obtain ⟨v4, x4⟩ := Option.isSome_iff_exists.1 (T0 4 (by omega)).1
          have f0 := (T0 0 (by omega)).2
          have f1 := (T0 1 (by omega)).2
          have f2 := (T0 2 (by omega)).2
          have f3 := (T0 3 (by omega)).2
          have f4 := (T0 4 (by omega)).2
          simp only [Nat.add_zero] at x0 f0
          clear T0
          go_wp2
          go_roundw
          case rel => exact ⟨j + 1, by omega, by first | rfl | go_num, (unhide HS).symm⟩
          case measure => simp [intOf]; omega
    · go_wp2
      clear o c0 c1 f1
      generalize w.setCell ⟨g, k * 2 + 1, none⟩ (.int .i64 (b.wn + 1)) = w1 at *
      go_loopw [9] (fun i w' => ∃ j : Nat, j ≤ 4 ∧ i = .int .i64 j ∧ Hid (w' = w1.setCells gk 0 (psC (List.replicate j (pgS true))))) (fun i _ => 4 - (intOf i).toNat)
      case atStart => exact ⟨0, by omega, rfl, rfl⟩
      case round =>
        obtain ⟨j, hj, rfl, hwr⟩ := hrel
        by_cases h0 : j = 4
        · subst h0
          go_wp2
          go_ret2
          refine ⟨by rw [unhide HW]; rfl, ?_, ?_⟩
          · rw [if_neg (by rw [unhide HW]; simp), unhide hwr]; exact unhide OP
          · rw [unhide hwr]; exact B1.setCells (.inl (unhide HGM)) _ _
        · have hlt : (j : Int) < 4 := by omega
          have hlo : (0 : Int) ≤ (j : Int) := by omega
          have HS := hide (wipe_step w1 gk j (pgS true))
          rw [← unhide hwr] at HS
          have D0 : wr.cell? ⟨g, k * 2, none⟩ = some (.slice (some ⟨gk, 0, none⟩) 4 pc) := by rw [unhide hwr, cell_setCells_ne (.inl hgk)]; exact hC0
          have T0 : wr.there gk (j * 5) 5 := by
            rw [unhide hwr]
            have := there_sub (World.there_setCells (unhide HTK) gk 0 (psC (List.replicate j (pgS true)))) (j * 5) 5 (by omega)
            rwa [Nat.zero_add] at this
          clear hwr
          obtain ⟨v0, x0⟩ := Option.isSome_iff_exists.1 (T0 0 (by omega)).1
          obtain ⟨v1, x1⟩ := Option.isSome_iff_exists.1 (T0 1 (by omega)).1
          obtain ⟨v2, x2⟩ := Option.isSome_iff_exists.1 (T0 2 (by omega)).1
          obtain ⟨v3, x3⟩ := Option.isSome_iff_exists.1 (T0 3 (by omega)).1
          obtain ⟨v4, x4⟩ := Option.isSome_iff_exists.1 (T0 4 (by omega)).1
          have f0 := (T0 0 (by omega)).2
          have f1 := (T0 1 (by omega)).2
          have f2 := (T0 2 (by omega)).2
          have f3 := (T0 3 (by omega)).2
          have f4 := (T0 4 (by omega)).2
          simp only [Nat.add_zero] at x0 f0
          clear T0
          go_wp2
          go_roundw
          case rel => exact ⟨j + 1, by omega, by first | rfl | go_num, (unhide HS).symm⟩
          case measure => simp [intOf]; omega
end Go.Proofs.Ytcmklcfedeeahaa.SpecW

/-
  Plain lists: blocks that are ok stay ok when a record is written, or a block is wiped. Nothing here walks the program.
-/
namespace Go.Proofs.Ytcmklcfedeeahaa.Ok2
open Go.ChangeShapes Go.WideShapes Go.ChangeAt Go.RowKit OkA Big Fl ImplB ImplF ImplS Own ImplT ImplU SpecA SpecB SpecC SpecD SpecW
set_option linter.unusedVariables false
set_option linter.unusedSimpArgs false

theorem okB_iff (bs : List Bk) : okB bs = true ↔ bs.length = 4 ∧ (∀ b ∈ bs, bkB b = true) ∧ (seqs bs).Nodup := by
  simp [okB, nodB_iff, and_assoc]
theorem bkB_iff (b : Bk) : bkB b = true ↔ b.ps.length = 4 ∧ (0 ≤ b.wn ∧ b.wn ≤ 200) ∧ (∀ p ∈ b.ps, pgB p = true) ∧ tailB b.ps = true := by
  simp [bkB, inB, and_assoc]
theorem mem_set {α : Type} {l : List α} {k : Nat} {y x : α} (h : x ∈ l.set k y) : x ∈ l ∨ x = y := List.mem_or_eq_of_mem_set h
theorem seqsP_set (ps : List Pg) (u : Nat) (p : Pg) (hu : u < ps.length) (h : seqP ps[u] = none) : (seqsP (ps.set u p)).Perm ((seqP p).toList ++ seqsP ps) := by
  induction ps generalizing u with
  | nil => simp at hu
  | cons q r ih =>
    cases u with
    | zero =>
      simp only [List.getElem_cons_zero] at h
      simp only [List.set_cons_zero, seqsP, List.filterMap_cons, h]
      cases seqP p <;> simp
    | succ u =>
      simp only [List.getElem_cons_succ] at h
      have := ih u (by simpa using hu) h
      simp only [List.set_cons_succ]
      unfold seqsP at this ⊢
      simp only [List.filterMap_cons]
      cases seqP q with
      | none => exact this
      | some x => exact (List.Perm.cons x this).trans List.perm_middle.symm
theorem seqs_set (bs : List Bk) (k : Nat) (b : Bk) (l : List Int) (hk : k < bs.length) (h : (seqsP b.ps).Perm (l ++ seqsP bs[k].ps)) : (seqs (bs.set k b)).Perm (l ++ seqs bs) := by
  induction bs generalizing k with
  | nil => simp at hk
  | cons q r ih =>
    cases k with
    | zero =>
      simp only [List.getElem_cons_zero] at h
      simp only [List.set_cons_zero, seqs, List.flatMap_cons]
      rw [← List.append_assoc]
      exact h.append_right _
    | succ k =>
      simp only [List.getElem_cons_succ] at h
      have := ih k (by simpa using hk) h
      simp only [List.set_cons_succ]
      unfold seqs at this ⊢
      simp only [List.flatMap_cons]
      refine (this.append_left _).trans ?_
      rw [← List.append_assoc, ← List.append_assoc]
      exact List.perm_append_comm.append_right _
theorem seqs_drop (bs : List Bk) (k : Nat) (b : Bk) (hk : k < bs.length) (h : seqsP b.ps = []) : (seqs (bs.set k b)).Sublist (seqs bs) := by
  induction bs generalizing k with
  | nil => simp at hk
  | cons q r ih =>
    cases k with
    | zero => simp only [List.set_cons_zero, seqs, List.flatMap_cons, h, List.nil_append]; exact List.sublist_append_right _ _
    | succ k =>
      have := ih k (by simpa using hk)
      simp only [List.set_cons_succ]
      unfold seqs at this ⊢
      simp only [List.flatMap_cons]
      exact this.append_left _
theorem getD_in (bs : List Bk) (k : Nat) (hk : k < bs.length) : bs.getD k zBk = bs[k] := by rw [List.getD_eq_getElem?_getD, List.getElem?_eq_getElem hk]; rfl
theorem list_four {α : Type} {l : List α} (h : l.length = 4) : ∃ a b c d, l = [a, b, c, d] := by
  match l, h with
  | [a, b, c, d], _ => exact ⟨a, b, c, d, rfl⟩
/-- The first clean page is clean. -/
theorem used_clean (ps : List Pg) (h : usedN ps < ps.length) : clB ps[usedN ps] = true := by
  induction ps with
  | nil => simp at h
  | cons p r ih =>
    by_cases h0 : usedN r = 0
    · cases hc : clB p
      · have e : usedN (p :: r) = 1 := by simp [usedN, h0, hc]
        simp only [e] at h ⊢
        have hr := (usedN_zero r).1 h0
        rw [List.all_eq_true] at hr
        simp only [List.getElem_cons_succ]
        exact hr _ (List.getElem_mem _)
      · have e : usedN (p :: r) = 0 := by simp [usedN, h0, hc]
        simp only [e, List.getElem_cons_zero, hc]
    · have e : usedN (p :: r) = usedN r + 1 := by simp [usedN, h0]
      simp only [e] at h ⊢
      simp only [List.getElem_cons_succ]
      exact ih (by simpa using h)
theorem used_set (ps : List Pg) (h4 : ps.length = 4) (p : Pg) (hp : clB p = false) (h : usedN ps < 4) (ht : tailB ps = true) : tailB (ps.set (usedN ps) p) = true ∧ usedN (ps.set (usedN ps) p) = usedN ps + 1 := by
  obtain ⟨a, b, c, d, rfl⟩ := list_four h4
  revert h ht
  cases ha : clB a <;> cases hb : clB b <;> cases hc : clB c <;> cases hd : clB d <;> simp [usedN, tailB, ha, hb, hc, hd, hp]
theorem pgW_st (torn : Bool) (rk rs ra rv : Int) : clB (pgW torn rk rs ra rv) = false := by cases torn <;> rfl
theorem pgW_ok (torn : Bool) (rk rs ra rv : Int) (h : recB rk rs ra rv = true) : pgB (pgW torn rk rs ra rv) = true := by
  cases torn
  · simpa [pgW, pgB] using h
  · rfl
theorem wrL_len (bs : List Bk) (k : Nat) (p : Pg) : (wrL bs k p).length = bs.length := by simp [wrL]
theorem wrN_no {bs : List Bk} {k : Nat} {rs : Int} (h : wrN bs k rs = false) : usedN (bs.getD k zBk).ps ≠ 4 ∧ hasB bs rs = false := by
  simpa [wrN] using h
theorem okB_wr (bs : List Bk) (k : Nat) (hk : k < 4) (hok : okB bs = true) (torn : Bool) (rk rs ra rv : Int) (hr : recB rk rs ra rv = true) (hn : wrN bs k rs = false) : okB (wrL bs k (pgW torn rk rs ra rv)) = true := by
  obtain ⟨h4, hb, hd⟩ := (okB_iff bs).1 hok
  have hkb : k < bs.length := by omega
  obtain ⟨hu, hh⟩ := wrN_no hn
  have hg := getD_in bs k hkb
  rw [hg] at hu
  obtain ⟨g4, gw, gp, gt⟩ := (bkB_iff _).1 (hb bs[k] (List.getElem_mem hkb))
  have hul : usedN bs[k].ps < bs[k].ps.length := by have := usedN_le bs[k].ps; omega
  have hcl := used_clean _ hul
  obtain ⟨t1, t2⟩ := used_set bs[k].ps g4 (pgW torn rk rs ra rv) (pgW_st _ _ _ _ _) (by omega) gt
  refine (okB_iff _).2 ⟨by rw [wrL_len]; exact h4, fun b hm => ?_, ?_⟩
  · unfold wrL at hm
    rcases mem_set hm with hm | rfl
    · exact hb b hm
    · rw [hg]
      refine (bkB_iff _).2 ⟨by simpa using g4, gw, fun p hp => ?_, t1⟩
      rcases mem_set hp with hp | rfl
      · exact gp p hp
      · exact pgW_ok _ _ _ _ _ hr
  · have hs : seqP bs[k].ps[usedN bs[k].ps] = none := by
      unfold seqP; rw [if_neg]
      simp [clB] at hcl; omega
    have p1 := seqsP_set bs[k].ps (usedN bs[k].ps) (pgW torn rk rs ra rv) hul hs
    have p2 := seqs_set bs k ⟨bs[k].ps.set (usedN bs[k].ps) (pgW torn rk rs ra rv), bs[k].wn⟩ _ hkb p1
    unfold wrL; rw [hg]
    rw [p2.nodup_iff]
    cases torn
    · have : (seqP (pgW false rk rs ra rv)).toList = [rs] := rfl
      rw [this]
      simp only [List.singleton_append, List.nodup_cons]
      exact ⟨by simpa [hasB] using hh, hd⟩
    · exact hd
theorem wiL_len (bs : List Bk) (k : Nat) (torn : Bool) : (wiL bs k torn).length = bs.length := by simp [wiL]
theorem pgS_ok (torn : Bool) : pgB (pgS torn) = true := by cases torn <;> rfl
theorem seqs_wi (torn : Bool) : seqsP (List.replicate 4 (pgS torn)) = [] := by cases torn <;> rfl
theorem tail_wi (torn : Bool) : tailB (List.replicate 4 (pgS torn)) = true := by cases torn <;> rfl
theorem okB_wi (bs : List Bk) (k : Nat) (hk : k < 4) (hok : okB bs = true) (torn : Bool) (hn : wiN bs k = false) : okB (wiL bs k torn) = true := by
  obtain ⟨h4, hb, hd⟩ := (okB_iff bs).1 hok
  have hkb : k < bs.length := by omega
  have hg := getD_in bs k hkb
  obtain ⟨g4, gw, gp, gt⟩ := (bkB_iff _).1 (hb bs[k] (List.getElem_mem hkb))
  unfold wiN at hn; rw [hg] at hn
  simp at hn
  refine (okB_iff _).2 ⟨by rw [wiL_len]; exact h4, fun b hm => ?_, ?_⟩
  · unfold wiL wiB at hm
    rcases mem_set hm with hm | rfl
    · exact hb b hm
    · rw [hg]
      exact (bkB_iff _).2 ⟨by simp, by simp only; omega, fun p hp => by rw [List.eq_of_mem_replicate hp]; exact pgS_ok _, tail_wi _⟩
  · unfold wiL wiB; rw [hg]
    exact hd.sublist (seqs_drop bs k _ hkb (seqs_wi torn))
end Go.Proofs.Ytcmklcfedeeahaa.Ok2

/-
  The specification's finding: the greatest number of a block's records.
-/
namespace Go.Proofs.Ytcmklcfedeeahaa.SpecF
open Go.ChangeShapes Go.WideShapes Go.ChangeAt Go.RowKit OkA Big Fl ImplB ImplF ImplS Own ImplT ImplU SpecA SpecB
set_option linter.unusedVariables false
set_option linter.unusedSimpArgs false

def mx (m s : Int) : Int := if m < s then s else m
def mostN (ps : List Pg) : Int := ps.foldl (fun m p => mx m p.s) 0
theorem mostN_take (ps : List Pg) (j : Nat) (hj : j < ps.length) : mostN (ps.take (j + 1)) = mx (mostN (ps.take j)) ps[j].s := by
  unfold mostN
  rw [List.take_succ_eq_append_getElem hj, List.foldl_append]
  rfl

set_option maxHeartbeats 1000000 in
theorem most_any (a : Option Addr) (cap : Nat) (ps : List Pg) (wn : Int) (w : World) (h : PsAt w a ps) (hl : ps.length ≤ 1048576) :
    Calls Try.prog 123 #[.agg #[.slice a ps.length cap, .int .i64 wn]] w fun e w' => e = .returned (.int .i64 (mostN ps)) ∧ Below w.heap.size w w' := by
  have B0 : Below w.heap.size w (w.alloc (.cells #[.slice a ps.length cap, .int .i64 wn] 102)) := (Below.refl _ _).alloc (Nat.le_refl _) _
  have H := hide (h.below B0)
  have c0 : (w.alloc (.cells #[.slice a ps.length cap, .int .i64 wn] 102)).cell? ⟨w.heap.size, 0, none⟩ = some (.slice a ps.length cap) := by
    rw [World.cell?_alloc_at _ _ _ _ rfl]; rfl
  have HN : Hid (mostN (ps.take ps.length) = mostN ps) := by show _ = _; rw [List.take_of_length_le (Nat.le_refl _)]
  clear h
  generalize hn : ps.length = n at *
  have HL := hide hn
  clear hn
  have hli : (n : Int) ≤ 1048576 := by omega
  go_enter Try.func123, Try.ntmps123
  go_wp2
  generalize w.alloc (.cells #[.slice a n cap, .int .i64 wn] 102) = w1 at *
  go_loop [3, 4] (fun m i => ∃ k : Nat, k ≤ n ∧ i = .int .i64 k ∧ m = .int .i64 (mostN (ps.take k))) (fun _ i => n - (intOf i).toNat)
  case atStart => exact ⟨0, by omega, rfl, rfl⟩
  case round =>
    obtain ⟨k, hk, rfl, rfl⟩ := hrel
    by_cases h0 : k = n
    · subst h0
      go_wp2
      go_ret
      exact ⟨by rw [← unhide HN]; rfl, B0⟩
    · have hlt : (k : Int) < (n : Int) := by omega
      have hkb : k < ps.length := by have := unhide HL; omega
      have hlo : (0 : Int) ≤ (k : Int) := by omega
      obtain ⟨b1, o1, rfl, g1⟩ : ∃ b o, a = some ⟨b, o, none⟩ ∧ w1.rangeAt b o (psC ps) := by
        rcases unhide H with rfl | h
        · simp at hkb
        · exact h
      have d2 := (PsAt.cells g1 k hkb).2.2.1
      have HT := hide (mostN_take ps k hkb)
      clear g1
      generalize ps[k].s = s at *
      generalize hm : mostN (ps.take k) = m at *
      go_wp2
      go_round
      case rel => exact ⟨k + 1, by omega, by first | rfl | go_num, by rw [unhide HT]; rfl⟩
      case measure => simp [intOf]; omega

def mostB (bs : List Bk) : Int := bs.foldl (fun m b => mx m (mostN b.ps)) 0
theorem mostB_take (bs : List Bk) (j : Nat) (hj : j < bs.length) : mostB (bs.take (j + 1)) = mx (mostB (bs.take j)) (mostN bs[j].ps) := by
  unfold mostB
  rw [List.take_succ_eq_append_getElem hj, List.foldl_append]
  rfl
set_option maxHeartbeats 1000000 in
theorem next_any (a : Option Addr) (cap : Nat) (bs : List Bk) (w : World) (hf : FsAt w a bs) (hl : bs.length ≤ 1048576) (hp : ∀ b ∈ bs, b.ps.length ≤ 1048576) :
    Calls Try.prog 117 #[.slice a bs.length cap] w fun e w' => e = .returned (.int .i64 (wrap64 (mostB bs + 1))) ∧ Below w.heap.size w w' := by
  have H := hide hf
  have HP := hide hp
  have HN : Hid (mostB (bs.take bs.length) = mostB bs) := by show _ = _; rw [List.take_of_length_le (Nat.le_refl _)]
  clear hf hp
  generalize hn : bs.length = n at *
  have HL := hide hn
  clear hn
  have hli : (n : Int) ≤ 1048576 := by omega
  go_enter Try.func117, Try.ntmps117
  go_wp2
  go_loopw [3, 4] (fun m i w' => ∃ k : Nat, k ≤ n ∧ i = .int .i64 k ∧ m = .int .i64 (mostB (bs.take k)) ∧ Below w.heap.size w w') (fun _ i _ => n - (intOf i).toNat)
  case atStart => exact ⟨0, by omega, rfl, rfl, Below.refl _ _⟩
  case round =>
    obtain ⟨k, hk, rfl, rfl, bw⟩ := hrel
    by_cases h0 : k = n
    · subst h0
      rw [unhide HN]
      go_wp2
      go_ret
      exact ⟨rfl, bw⟩
    · have hlt : (k : Int) < (n : Int) := by omega
      have hkb : k < bs.length := by have := unhide HL; omega
      have hlo : (0 : Int) ≤ (k : Int) := by omega
      obtain ⟨b1, o1, rfl, g1⟩ : ∃ b o, a = some ⟨b, o, none⟩ ∧ ∀ i (hi : i < bs.length), BkAt wr b (o + i * 2) bs[i] := by
        rcases (unhide H).below bw with rfl | h
        · simp at hkb
        · exact h
      obtain ⟨p1, c1, d0, d1, q1⟩ := g1 k hkb
      have HC := hide (most_any p1 c1 bs[k].ps bs[k].wn wr q1 (unhide HP _ (List.getElem_mem hkb)))
      have HT := hide (mostB_take bs k hkb)
      clear g1 q1
      generalize bs[k].ps.length = q at *
      generalize mostN bs[k].ps = s at *
      generalize bs[k].wn = wn at *
      generalize hm : mostB (bs.take k) = m at *
      go_wp2_with fail
      refine (unhide HC).mono ?_
      rintro e w2 ⟨rfl, b2⟩
      have B2 := bw.trans (b2.mono bw.size)
      clear b2 bw d0 d1 HC
      go_wp2
      go_roundw
      case rel => exact ⟨k + 1, by omega, by first | rfl | go_num, by rw [unhide HT]; rfl, B2⟩
      case measure => simp [intOf]; omega
end Go.Proofs.Ytcmklcfedeeahaa.SpecF
