/-
  Texts that belong together, one behind the other: SpecB, SpecC.
-/
import Derived.Test.YtkikeapfjpnkgaaSpecA
import Derived.Deep.RegionHeld3
import Derived.Deep.DrawnRows
import Derived.Deep.AppendLies
import Derived.Laws.OwnMore

/-
  The specification's FlashOk, FlashClean and search for a number, for every list of blocks.
-/
namespace Go.Proofs.Ytkikeapfjpnkgaa.SpecB
open Go.ChangeShapes Go.WideShapes Go.ChangeAt Go.RowKit OkA Big Fl ImplB ImplF ImplS _root_.Go.Proofs.Ytkikeapfjpnkgaa.Own ImplT ImplU SpecA
set_option linter.unusedVariables false
set_option linter.unusedSimpArgs false

set_option maxHeartbeats 400000 in
theorem specOk_nil (a : Option Addr) (cap : Nat) (w : World) :
    Calls Try.prog 22 #[.slice a 0 cap] w fun e w' => e = .returned (.bool false) ∧ Below w.heap.size w w' := by
  go_enter Try.func22, Try.ntmps22
  go_wp2_with (first | (refine wpList_make_big rfl 82 _ _ rfl 601 rfl rfl 4 1 1 (.bool false) Try.underlying82 (by kernel_rfl) (by omega) (by omega) ?_))
  have b0 : Below w.heap.size w (w.alloc (.cells (madeCells #[.bool false] 601) 4)) := (Below.refl _ _).alloc (Nat.le_refl _) _
  generalize w.alloc (.cells (madeCells #[.bool false] 601) 4) = w1 at *
  go_rounds 1
  go_ret
  exact ⟨rfl, b0⟩
theorem specFlashOk_any (a : Option Addr) (cap : Nat) (bs : List Bk) (w : World) (hf : FsAt w a bs) (hm : bs.length ≤ 1048576) :
    Calls Try.prog 22 #[.slice a bs.length cap] w fun e w' => e = .returned (.bool (okB bs)) ∧ Below w.heap.size w w' := by
  rcases hf with rfl | ⟨b, o, rfl, h⟩
  · exact specOk_nil a cap w
  · exact specOkF b o cap bs w hm h

def cleanN (ps : List Pg) : Nat := (ps.filter clB).length
theorem cleanN_take (ps : List Pg) (k : Nat) (hk : k < ps.length) : cleanN (ps.take (k + 1)) = cleanN (ps.take k) + if clB ps[k] then 1 else 0 := by
  rw [List.take_succ_eq_append_getElem hk]
  unfold cleanN
  rw [List.filter_append, List.length_append]
  cases h : clB ps[k] <;> simp [h]
theorem cleanN_le (ps : List Pg) : cleanN ps ≤ ps.length := List.length_filter_le _ _

set_option maxHeartbeats 400000 in
theorem l2Clean_any (pb po cap : Nat) (ps : List Pg) (wn : Int) (w : World) (h4 : ps.length = 4) (hr : w.rangeAt pb po (psC ps)) :
    Calls Try.prog 66 #[.agg #[.slice (some ⟨pb, po, none⟩) 4 cap, .int .i64 wn]] w fun e w' => e = .returned (.int .i64 (cleanN ps)) ∧ Below w.heap.size w w' := by
  have hr1 := World.rangeAt_alloc hr (.cells #[.slice (some ⟨pb, po, none⟩) 4 cap, .int .i64 wn] 36)
  have HR := hide hr1
  clear hr hr1
  go_enter Try.func66, Try.ntmps66
  go_wp2
  go_loop [3, 4] (fun n i => ∃ k : Nat, k ≤ 4 ∧ i = .int .i64 k ∧ n = .int .i64 (cleanN (ps.take k))) (fun _ i => 4 - (intOf i).toNat)
  case atStart => exact ⟨0, by omega, rfl, rfl⟩
  case round =>
    obtain ⟨k, hk, rfl, rfl⟩ := hrel
    by_cases h0 : k = 4
    · subst h0
      have e : ps.take 4 = ps := List.take_of_length_le (by omega)
      have E := hide e
      clear e
      go_wp2
      go_ret
      exact ⟨by rw [unhide E]; rfl, (Below.refl _ _).alloc (Nat.le_refl _) _⟩
    · have hlt : (k : Int) < 4 := by omega
      have hlo : (0 : Int) ≤ (k : Int) := by omega
      have hkb : k < ps.length := by omega
      have c0 := (PsAt.cells (unhide HR) k hkb).1
      have hn := cleanN_le (ps.take k)
      have hn2 : (ps.take k).length ≤ 4 := by simp; omega
      have HT := hide (cleanN_take ps k hkb)
      generalize ps[k] = p at *
      by_cases hp : p.st = 0
      · have g : (p.st == 0) = true := by simpa using hp
        have HP := hide hp
        clear hp
        go_wp2
        go_round
        case rel =>
          have h0 := unhide HT
          rw [if_pos (by simpa [clB] using unhide HP)] at h0
          exact ⟨k + 1, by omega, by first | rfl | go_num, by rw [h0]; go_num⟩
        case measure => simp [intOf]; omega
      · have g : (p.st == 0) = false := by simpa using hp
        have HP := hide hp
        clear hp
        go_wp2
        go_round
        case rel =>
          have h0 := unhide HT
          rw [if_neg (by simpa [clB] using unhide HP)] at h0
          exact ⟨k + 1, by omega, by first | rfl | go_num, by rw [h0]; rfl⟩
        case measure => simp [intOf]; omega

/-- Of an ok block the clean pages are all behind the used ones. -/
theorem clean_used (ps : List Pg) (h : tailB ps = true) : cleanN ps + usedN ps = ps.length := by
  induction ps with
  | nil => rfl
  | cons p r ih =>
    have hh := h
    simp only [tailB, Bool.and_eq_true, Bool.or_eq_true, Bool.not_eq_true'] at h
    have ih' := ih h.2
    simp only [usedN, List.length_cons]
    cases hc : clB p
    · have e : cleanN (p :: r) = cleanN r := by simp [cleanN, hc]
      rw [e]
      by_cases h0 : usedN r = 0
      · rw [if_pos h0]; simp; omega
      · rw [if_neg h0]; omega
    · have e : cleanN (p :: r) = cleanN r + 1 := by simp [cleanN, hc]
      have h0 : usedN r = 0 := (usedN_zero r).2 (by rcases h.1 with g | g; rw [hc] at g; cases g; exact g)
      rw [e, if_pos h0]
      simp
      omega
theorem ok_tail {bs : List Bk} (h : okB bs = true) (k : Nat) (hk : k < bs.length) : tailB bs[k].ps = true := by
  simp only [okB, Bool.and_eq_true, List.all_eq_true] at h
  have := h.1.2 _ (List.getElem_mem hk)
  simp only [bkB, Bool.and_eq_true] at this
  exact this.2

/-- A block that there is, of ok blocks: where it lies. -/
theorem ok_at {w : World} {a : Option Addr} {bs : List Bk} (hf : FsAt w a bs) (h : okB bs = true) (k : Nat) (hk : k < 4) :
    ∃ fb fo pb po pc, a = some ⟨fb, fo, none⟩ ∧ w.cell? ⟨fb, fo + k * 2, none⟩ = some (.slice (some ⟨pb, po, none⟩) 4 pc) ∧ w.cell? ⟨fb, fo + k * 2 + 1, none⟩ = some (.int .i64 (bs[k]'(by have := ok_len h; omega)).wn) ∧ w.rangeAt pb po (psC (bs[k]'(by have := ok_len h; omega)).ps) := by
  have h4 := ok_len h
  have hb4 := (ok_fours h).at k (by omega)
  rcases hf with rfl | ⟨fb, fo, rfl, hf⟩
  · simp at h4
  · obtain ⟨pa, pc, c0, c1, hps⟩ := hf k (by omega)
    rcases hps with e | ⟨pb, po, rfl, hr⟩
    · rw [e] at hb4; simp at hb4
    · rw [hb4] at c0
      exact ⟨fb, fo, pb, po, pc, rfl, c0, c1, hr⟩

set_option maxHeartbeats 400000 in
theorem specClean_any (a : Option Addr) (cap : Nat) (blk : Int) (bs : List Bk) (w : World) (hf : FsAt w a bs) (hm : bs.length ≤ 1048576) :
    Calls Try.prog 44 #[.slice a bs.length cap, .int .i64 blk] w fun e w' => e = .returned (.int .i64 (cleanR bs blk)) ∧ Below w.heap.size w w' := by
  have HC := hide (specFlashOk_any a cap bs w hf hm)
  cases hs : okB bs
  · have HR : Hid (cleanR bs blk = -1) := by unfold cleanR; rw [hs]; rfl
    rw [hs] at HC
    clear hs hf
    go_enter Try.func44, Try.ntmps44
    go_wp2_with fail
    refine (unhide HC).mono ?_
    rintro e w1 ⟨rfl, b1⟩
    go_wp2
    go_ret
    exact ⟨by rw [unhide HR]; rfl, b1⟩
  · cases hb : inB blk 0 3
    · have HR : Hid (cleanR bs blk = -1) := by unfold cleanR; rw [hs, hb]; rfl
      have HI := hide (l6In_any blk 0 3)
      rw [hs] at HC
      rw [hb] at HI
      clear hs hf hb
      go_enter Try.func44, Try.ntmps44
      go_wp2_with fail
      refine (unhide HC).mono ?_
      rintro e w1 ⟨rfl, b1⟩
      go_wp2_with (go_at_call 45; refine (unhide HI _).mono ?_; rintro e w' ⟨rfl, rfl⟩)
      go_ret
      exact ⟨by rw [unhide HR]; rfl, b1⟩
    · obtain ⟨k, rfl, hk⟩ := in_range hb
      have h4 := ok_len hs
      have hkb : k < bs.length := by omega
      obtain ⟨fb, fo, pb, po, pc, rfl, c0, c1, hr⟩ := ok_at hf hs k hk
      have HR : Hid (cleanR bs (k : Int) = cleanN bs[k].ps) := by
        have h1 := clean_used bs[k].ps (ok_tail hs k hkb)
        rw [(ok_fours hs).at k hkb] at h1
        unfold cleanR; rw [hs, hb, Bool.and_true, if_pos rfl, Int.toNat_natCast, List.getD_eq_getElem?_getD, List.getElem?_eq_getElem hkb]
        show (4 : Int) - _ = _
        simp only [Option.getD_some]
        omega
      have hb4 := (ok_fours hs).at k hkb
      have HI := hide (l6In_any (k : Int) 0 3)
      rw [hs] at HC
      rw [hb] at HI
      have hlo : (0 : Int) ≤ (k : Int) := by omega
      have hhi : (k : Int) < 4 := by omega
      rw [h4] at HC ⊢
      generalize bs[k] = b at *
      clear hs hf hb h4
      go_enter Try.func44, Try.ntmps44
      go_wp2_with fail
      refine (unhide HC).mono ?_
      rintro e w1 ⟨rfl, b1⟩
      rw [← b1.cell (p := ⟨fb, fo + k * 2, none⟩) (cell_lt c0)] at c0
      rw [← b1.cell (p := ⟨fb, fo + k * 2 + 1, none⟩) (cell_lt c1)] at c1
      have hr1 := rangeAt_below hr b1 (cell_lt (PsAt.cells hr 0 (by omega)).1)
      clear hr
      go_wp2_with (go_at_call 45; refine (unhide HI _).mono ?_; rintro e w' ⟨rfl, hw'⟩; obtain rfl := hw'.symm)
      refine (l2Clean_any pb po pc b.ps b.wn _ hb4 hr1).mono ?_
      rintro e w2 ⟨rfl, b2⟩
      clear c0 c1 hr1
      go_wp2
      go_ret
      exact ⟨by rw [unhide HR]; rfl, b1.trans (b2.mono b1.size)⟩
end Go.Proofs.Ytkikeapfjpnkgaa.SpecB

/-
  The specification's copy of blocks and its new blocks: in rows of their own.
-/
namespace Go.Proofs.Ytkikeapfjpnkgaa.SpecC
open Go.ChangeShapes Go.WideShapes Go.ChangeAt Go.RowKit OkA Big Fl ImplB ImplF ImplS _root_.Go.Proofs.Ytkikeapfjpnkgaa.Own ImplT ImplU SpecA SpecB
set_option linter.unusedVariables false
set_option linter.unusedSimpArgs false
attribute [local go_sem ↓] Go.wp_at_zero Go.wp_at_succ

/-- A row of blocks that grows by append, its pages in rows of their own. -/
structure Grow (w : World) (lo : Nat) (v : Value) (G : List Nat) (ocs : List Value) (bs : List Bk) : Prop where
  row : w.ownsRow lo 36 2 v bs.length ocs
  own : ∀ g, v.ownBlock = some g → lo ≤ g ∧ g < w.heap.size ∧ g ∉ G
  len : G.length = bs.length
  nd : G.Nodup
  lo : ∀ x ∈ G, lo ≤ x
  hi : ∀ x ∈ G, x < w.heap.size
  out : ∀ i (hi : i < bs.length), ∃ cap, ocs[i * 2]? = some (.slice (some ⟨G[i]'(by omega), 0, none⟩) bs[i].ps.length cap)
  worn : ∀ i (hi : i < bs.length), ocs[i * 2 + 1]? = some (.int .i64 bs[i].wn)
  pgs : ∀ i (hi : i < bs.length), w.rangeAt (G[i]'(by omega)) 0 (psC bs[i].ps)
  free : ∀ i (hi : i < bs.length), w.there (G[i]'(by omega)) 0 (bs[i].ps.length * 5)
  caps : ∀ i (hi : i < bs.length) (a : Option Addr) (m c : Nat), ocs[i * 2]? = some (.slice a m c) → m ≤ c

theorem ownsRow_below {w w' : World} {lo : Nat} {e : TypeId} {size : Nat} {v : Value} {n : Nat} {xs : List Value} (h : w.ownsRow lo e size v n xs) {B : Nat} (hb : Below B w w') (hg : ∀ g, v.ownBlock = some g → g < B) : w'.ownsRow lo e size v n xs := by
  obtain ⟨h1, h2⟩ := h
  refine ⟨h1, ?_⟩
  rcases h2 with h2 | ⟨g, cap, cur, rfl, hl, hh, r⟩
  · exact .inl h2
  · exact .inr ⟨g, cap, cur, rfl, hl, by rw [hb.block g (hg g rfl)]; exact hh, r⟩
theorem Grow.far {w w' : World} {lo : Nat} {v : Value} {G : List Nat} {ocs : List Value} {bs : List Bk} (h : Grow w lo v G ocs bs) {B : Nat} (hb : Below B w w') (hB : ∀ x, (x ∈ G ∨ v.ownBlock = some x) → x < B) : Grow w' lo v G ocs bs :=
  ⟨ownsRow_below h.row hb (fun g hg => hB g (.inr hg)), fun g hg => ⟨(h.own g hg).1, Nat.lt_of_lt_of_le (h.own g hg).2.1 hb.size, (h.own g hg).2.2⟩, h.len, h.nd, h.lo, fun x hx => Nat.lt_of_lt_of_le (h.hi x hx) hb.size, h.out, h.worn,
   fun i hi => rangeAt_below (h.pgs i hi) hb (hB _ (.inl (List.getElem_mem _))), fun i hi => there_below (h.free i hi) hb (hB _ (.inl (List.getElem_mem _))), h.caps⟩
theorem infoP : ∃ i, Try.prog.info? 33 = some i ∧ i.zero = some (.agg (pgC zPg).toArray) ∧ i.size = 5 ∧ i.bytes = 40 := by
  have h := made_ps
  cases hq : Try.prog.info? 33 with
  | none => rw [hq] at h; cases h
  | some i => rw [hq] at h; simp at h; exact ⟨i, rfl, h.1, h.2.1, h.2.2⟩
theorem infoB : ∃ i, Try.prog.info? 36 = some i ∧ i.zero = some (.agg #[.slice none 0 0, .int .i64 0]) ∧ i.size = 2 ∧ i.bytes = 32 := by
  have h := made_bs
  cases hq : Try.prog.info? 36 with
  | none => rw [hq] at h; cases h
  | some i => rw [hq] at h; simp at h; exact ⟨i, rfl, h.1, h.2.1, h.2.2⟩
theorem row_cap {w : World} {lo p cap n : Nat} {xs : List Value} {e : TypeId} {size : Nat} (hn : 0 < n) (h : w.ownsRow lo e size (.slice (some ⟨p, 0, none⟩) n cap) n xs) : n ≤ cap := by
  obtain ⟨h1, h2⟩ := h
  rcases h2 with ⟨h2, _⟩ | ⟨g, c, cur, hv, hl, hh, hnc, _, hs, ht⟩
  · cases h2
  · simp at hv
    obtain ⟨rfl, rfl⟩ := hv
    exact hnc
theorem row_pages {w : World} {lo p cap n : Nat} {xs : List Value} {e : TypeId} {size : Nat} (hn : 0 < n) (h : w.ownsRow lo e size (.slice (some ⟨p, 0, none⟩) n cap) n xs) : w.rangeAt p 0 xs ∧ w.there p 0 (n * size) := by
  obtain ⟨h1, h2⟩ := h
  rcases h2 with ⟨h2, _⟩ | ⟨g, c, cur, hv, hl, hh, hnc, _, hs, ht⟩
  · cases h2
  · simp at hv
    obtain ⟨rfl, rfl⟩ := hv
    have hle : n * size ≤ cur.size := by rw [hs]; exact Nat.mul_le_mul_right _ hnc
    refine ⟨fun j v hv => ?_, fun j hj => ?_⟩
    · rw [Nat.zero_add, cell_of_row w p j cur e (0, 0) hh]
      rw [← ht, List.getElem?_take] at hv
      split at hv
      · simpa using hv
      · cases hv
    · rw [Nat.zero_add, cell_of_row w p j cur e (0, 0) hh]
      exact ⟨by rw [Array.getElem?_eq_getElem (by omega)]; rfl, frozen_of_row w p j cur e hh⟩

theorem Grow.alloc_drew {w : World} {lo : Nat} {v : Value} {G : List Nat} {ocs : List Value} {bs : List Bk} (h : Grow w lo v G ocs bs) (o : Obj) : Grow (w.drew.alloc o) lo v G ocs bs :=
  h.far (B := w.heap.size) ((Below.refl _ _).drew.alloc (Nat.le_refl _) o) (fun x hx => by
    rcases hx with hx | hx
    · exact h.hi x hx
    · exact (h.own x hx).2.1)
theorem ownB_lt {w : World} {lo : Nat} {v : Value} {G : List Nat} {ocs : List Value} {bs : List Bk} (h : Grow w lo v G ocs bs) : ∀ x, (x ∈ G ∨ v.ownBlock = some x) → x < w.heap.size := fun x hx => by
  rcases hx with hx | hx
  · exact h.hi x hx
  · exact (h.own x hx).2.1

theorem range_grown {w w' : World} {row : Option Nat} (hg : w.grownBy w' row) {b o : Nat} {cs : List Value} (hlt : b < w.heap.size) (hne : row ≠ some b) (h : w.rangeAt b o cs) : w'.rangeAt b o cs := fun j v hv => by
  rw [hg.cell_far ⟨b, o + j, none⟩ hlt (fun e => hne e.symm)]; exact h j v hv
theorem there_grown {w w' : World} {row : Option Nat} (hg : w.grownBy w' row) {b o n : Nat} (hlt : b < w.heap.size) (hne : row ≠ some b) (h : w.there b o n) : w'.there b o n := fun j hj => by
  rw [hg.cell_far ⟨b, o + j, none⟩ hlt (fun e => hne e.symm), hg.frozen_far ⟨b, o + j, none⟩ hlt (fun e => hne e.symm)]; exact h j hj
theorem Grow.push {wC wD : World} {lo : Nat} {v : Value} {G : List Nat} {ocs : List Value} {bs : List Bk} (h : Grow wC lo v G ocs bs) (p cap : Nat) (b : Bk) (hp : lo ≤ p) (hps : p < wC.heap.size) (hpG : p ∉ G) (hpv : v.ownBlock ≠ some p)
    (hr : wC.rangeAt p 0 (psC b.ps)) (ht : wC.there p 0 (b.ps.length * 5)) (g' cap' : Nat) (own : wD.ownsRow lo 36 2 (.slice (some ⟨g', 0, none⟩) (bs.length + 1) cap') (bs.length + 1) (ocs ++ [.slice (some ⟨p, 0, none⟩) b.ps.length cap, .int .i64 b.wn]))
    (grow : wC.grownBy wD v.ownBlock) (hat : v.ownBlock = some g' ∨ g' = wC.heap.size) (hlt : g' < wD.heap.size) (hlo : lo ≤ wC.heap.size) (hcap : b.ps.length ≤ cap) :
    Grow wD lo (.slice (some ⟨g', 0, none⟩) (bs.length + 1) cap') (G ++ [p]) (ocs ++ [.slice (some ⟨p, 0, none⟩) b.ps.length cap, .int .i64 b.wn]) (bs ++ [b]) := by
  have hlen := h.len
  have hol : ocs.length = bs.length * 2 := h.row.1
  have hGv : ∀ i (hi : i < bs.length), v.ownBlock ≠ some (G[i]'(by omega)) := fun i hi e => (h.own _ e).2.2 (List.getElem_mem _)
  have e1 : ∀ (q : bs.length < (G ++ [p]).length), (G ++ [p])[bs.length]'q = p := fun q => by rw [List.getElem_append_right (by omega)]; simp [hlen]
  have e2 : ∀ (q : bs.length < (bs ++ [b]).length), (bs ++ [b])[bs.length]'q = b := fun q => by rw [List.getElem_append_right (by omega)]; simp
  have ecap : ∀ i, i < (bs ++ [b]).length → ∀ (a : Option Addr) (m c : Nat), (ocs ++ [.slice (some ⟨p, 0, none⟩) b.ps.length cap, .int .i64 b.wn])[i * 2]? = some (.slice a m c) → m ≤ c := by
    intro i hi a m c hc
    simp only [List.length_append, List.length_singleton] at hi
    by_cases e : i < bs.length
    · rw [List.getElem?_append_left (by omega)] at hc
      exact h.caps i e a m c hc
    · obtain rfl : i = bs.length := by omega
      rw [List.getElem?_append_right (by omega), hol, Nat.sub_self] at hc
      simp at hc
      obtain ⟨_, rfl, rfl⟩ := hc
      exact hcap
  refine ⟨by simpa using own, fun g hg => ?_, by simp [hlen], ?_, ?_, ?_, ?_, ?_, ?_, ?_, ecap⟩
  · simp [Value.ownBlock] at hg
    subst hg
    rcases hat with e | rfl
    · obtain ⟨q1, q2, q3⟩ := h.own _ e
      exact ⟨q1, hlt, by simp; exact ⟨q3, fun e2 => hpv (by rw [e, e2])⟩⟩
    · exact ⟨hlo, hlt, by simp; exact ⟨fun hx => by have := h.hi _ hx; omega, by omega⟩⟩
  · exact List.nodup_append.2 ⟨h.nd, by simp, fun x hx y hy => by simp at hy; subst hy; intro e; subst e; exact hpG hx⟩
  · intro x hx
    rw [List.mem_append] at hx
    rcases hx with hx | hx
    · exact h.lo x hx
    · simp at hx; subst hx; exact hp
  · intro x hx
    rw [List.mem_append] at hx
    rcases hx with hx | hx
    · exact Nat.lt_of_lt_of_le (h.hi x hx) grow.size
    · simp at hx; subst hx; exact Nat.lt_of_lt_of_le hps grow.size
  · intro i hi
    simp only [List.length_append, List.length_singleton] at hi
    by_cases e : i < bs.length
    · obtain ⟨c, hc⟩ := h.out i e
      refine ⟨c, ?_⟩
      simp only [List.getElem_append_left e, List.getElem_append_left (show i < G.length by omega)]
      rw [List.getElem?_append_left (by omega)]; exact hc
    · obtain rfl : i = bs.length := by omega
      refine ⟨cap, ?_⟩
      simp only [e1, e2]
      rw [List.getElem?_append_right (by omega), hol, Nat.sub_self]; rfl
  · intro i hi
    simp only [List.length_append, List.length_singleton] at hi
    by_cases e : i < bs.length
    · simp only [List.getElem_append_left e]
      rw [List.getElem?_append_left (by omega)]; exact h.worn i e
    · obtain rfl : i = bs.length := by omega
      simp only [e2]
      rw [List.getElem?_append_right (by omega), hol, show bs.length * 2 + 1 - bs.length * 2 = 1 by omega]; rfl
  · intro i hi
    simp only [List.length_append, List.length_singleton] at hi
    by_cases e : i < bs.length
    · simp only [List.getElem_append_left e, List.getElem_append_left (show i < G.length by omega)]
      exact range_grown grow (h.hi _ (List.getElem_mem _)) (hGv i e) (h.pgs i e)
    · obtain rfl : i = bs.length := by omega
      simp only [e1, e2]
      exact range_grown grow hps hpv hr
  · intro i hi
    simp only [List.length_append, List.length_singleton] at hi
    by_cases e : i < bs.length
    · simp only [List.getElem_append_left e, List.getElem_append_left (show i < G.length by omega)]
      exact there_grown grow (h.hi _ (List.getElem_mem _)) (hGv i e) (h.free i e)
    · obtain rfl : i = bs.length := by omega
      simp only [e1, e2]
      exact there_grown grow hps hpv ht
theorem Grow.toOwn {w : World} {lo : Nat} {v : Value} {G : List Nat} {ocs : List Value} {bs : List Bk} (h : Grow w lo v G ocs bs) (hn : 0 < bs.length) : ∃ g cap, v = .slice (some ⟨g, 0, none⟩) bs.length cap ∧ Own w lo g G bs bs.length := by
  obtain ⟨g, cap, rfl, hg, hlt⟩ := h.row.form hn
  obtain ⟨rr, tt⟩ := row_pages hn h.row
  have ecap : ∀ i, i < bs.length → ∀ (a : Option Addr) (m c : Nat), w.cell? ⟨g, i * 2, none⟩ = some (.slice a m c) → m ≤ c := fun i hi a m c hc => by
    obtain ⟨c', hc'⟩ := h.out i hi
    have h2 := rr _ _ hc'
    rw [Nat.zero_add, hc] at h2
    exact h.caps i hi a m c (hc'.trans h2.symm)
  refine ⟨g, cap, rfl, h.len, ?_, ?_, ?_, Nat.le_refl _, tt, fun i hi => ?_, fun i hi => ?_, h.pgs, h.free, ecap⟩
  · exact List.nodup_cons.2 ⟨(h.own g rfl).2.2, h.nd⟩
  · intro x hx
    rcases List.mem_cons.1 hx with rfl | hx
    · exact hg
    · exact h.lo x hx
  · intro x hx
    rcases List.mem_cons.1 hx with rfl | hx
    · exact hlt
    · exact h.hi x hx
  · obtain ⟨c, hc⟩ := h.out i hi
    exact ⟨c, by have := rr _ _ hc; simpa using this⟩
  · have := rr _ _ (h.worn i hi); simpa using this

set_option maxHeartbeats 2000000 in
theorem copy_any (fb fo cap : Nat) (bs : List Bk) (w : World) (hF : Fours bs) (h4 : bs.length ≤ 4) (hf : ∀ i (hi : i < bs.length), BkAt w fb (fo + i * 2) bs[i]) (hn : 0 < bs.length) :
    Calls Try.prog 48 #[.slice (some ⟨fb, fo, none⟩) bs.length cap] w fun e w' => ∃ g G c, e = .returned (.slice (some ⟨g, 0, none⟩) bs.length c) ∧ Own w' w.heap.size g G bs bs.length ∧ Below w.heap.size w w' := by
  have HF := hide hf
  clear hf
  have hli : (bs.length : Int) ≤ 4 := by omega
  go_enter Try.func48, Try.ntmps48
  go_wp2
  have o1 : Grow (w.alloc (.cells #[] 36)) w.heap.size (.slice (some ⟨w.heap.size, 0, none⟩) 0 0) [] [] [] := by
    refine ⟨World.ownsRow_lit w #[] 0 (Nat.le_refl _) (by simp [maxLen]) rfl, fun g hg => ?_, rfl, by simp, by simp, by simp, fun i hi => by simp at hi, fun i hi => by simp at hi, fun i hi => by simp at hi, fun i hi => by simp at hi, fun i hi => by simp at hi⟩
    simp [Value.ownBlock] at hg
    subst hg
    exact ⟨Nat.le_refl _, by simp, by simp⟩
  have b0 : Below w.heap.size w (w.alloc (.cells #[] 36)) := (Below.refl _ _).alloc (Nat.le_refl _) _
  generalize w.alloc (.cells #[] 36) = w1 at *
  go_loopw [3, 4] (fun v i w' => ∃ k : Nat, k ≤ bs.length ∧ i = .int .i64 k ∧ (∃ G ocs, Grow w' w.heap.size v G ocs (bs.take k)) ∧ Below w.heap.size w w') (fun _ i _ => bs.length - (intOf i).toNat)
  case atStart => exact ⟨0, by omega, rfl, ⟨[], [], by simpa using o1⟩, b0⟩
  case round =>
    obtain ⟨k, hk, rfl, ⟨G, ocs, ok⟩, bw⟩ := hrel
    clear o1 b0
    by_cases h0 : k = bs.length
    · subst h0
      rw [List.take_of_length_le (Nat.le_refl _)] at ok
      obtain ⟨g, c, rfl, o⟩ := ok.toOwn hn
      go_wp2
      go_ret
      exact ⟨g, G, c, rfl, o, bw⟩
    · have hlt : (k : Int) < (bs.length : Int) := by omega
      have hkb : k < bs.length := by omega
      have hlo : (0 : Int) ≤ (k : Int) := by omega
      have hb4 : bs[k].ps.length = 4 := hF.at k hkb
      obtain ⟨pa, pc, c0w, c1w, hpsw⟩ := unhide HF k hkb
      have lfw := cell_lt c0w
      obtain ⟨pb, po, rfl, hrw⟩ : ∃ pb po, pa = some ⟨pb, po, none⟩ ∧ w.rangeAt pb po (psC bs[k].ps) := by
        rcases hpsw with h | h
        · rw [h] at hb4; simp at hb4
        · exact h
      rw [hb4] at c0w
      have hr := rangeAt_below hrw bw (cell_lt (PsAt.cells hrw 0 (by omega)).1)
      have c0 := c0w
      have c1 := c1w
      rw [← bw.cell (p := ⟨fb, fo + k * 2, none⟩) lfw] at c0
      rw [← bw.cell (p := ⟨fb, fo + k * 2 + 1, none⟩) lfw] at c1
      have lf := cell_lt c0
      have HT := hide (List.take_succ_eq_append_getElem hkb)
      have tl : (bs.take k).length = k := by simp; omega
      have hlp : (psC bs[k].ps).length = 4 * 5 := by rw [len_psC, hb4]
      clear c0w c1w hpsw hrw
      generalize bs[k] = b at *
      go_wp2_with fail
      refine wp_region_noPanic ?_
      refine wp_region_held_drew (S := fun w' => w'.cell? ⟨fb, fo + k * 2, none⟩ = some (.slice (some ⟨pb, po, none⟩) 4 pc) ∧ w'.cell? ⟨fb, fo + k * 2 + 1, none⟩ = some (.int .i64 b.wn)) (by kernel_rfl) (⟨by simpa using c0, by simpa using c1⟩) (fun hHeld => ?_)
      refine takeL 0 (u3) rfl (by kernel_rfl) (by kernel_rfl) (by kernel_rfl) (fun _ _ _ h => h) (Or.inl ⟨rfl, fun _ _ => rfl⟩) hHeld ?_
      try simp only [Act.put, List.setIfInBounds_toArray, List.set_cons_zero, List.set_cons_succ]
      refine takeL 2 (.slice (some ⟨fb, fo, none⟩) bs.length cap) rfl (by kernel_rfl) (by kernel_rfl) (by kernel_rfl) (fun _ _ _ h => h) (Or.inl ⟨rfl, fun _ _ => rfl⟩) hHeld ?_
      try simp only [Act.put, List.setIfInBounds_toArray, List.set_cons_zero, List.set_cons_succ]
      refine takeL 3 (.int .i64 k) rfl (by kernel_rfl) (by kernel_rfl) (by kernel_rfl) (fun _ _ _ h => h) (Or.inl ⟨rfl, fun _ _ => rfl⟩) hHeld ?_
      try simp only [Act.put, List.setIfInBounds_toArray, List.set_cons_zero, List.set_cons_succ]
      refine takeL 4 (.pointer (some ⟨fb, fo + k * 2, none⟩)) rfl (by kernel_rfl) (by kernel_rfl) (by kernel_rfl) (fun _ _ _ h => h) (Or.inl ⟨rfl, fun w9 hSw => by go_simp⟩) hHeld ?_
      try simp only [Act.put, List.setIfInBounds_toArray, List.set_cons_zero, List.set_cons_succ]
      refine takeL 5 (.pointer (some ⟨fb, fo + k * 2, none⟩)) rfl (by kernel_rfl) (by kernel_rfl) (by kernel_rfl) (fun _ _ _ h => h) (Or.inl ⟨rfl, fun w9 hSw => by go_simp⟩) hHeld ?_
      try simp only [Act.put, List.setIfInBounds_toArray, List.set_cons_zero, List.set_cons_succ]
      refine takeL 6 (.slice (some ⟨pb, po, none⟩) 4 pc) rfl (by kernel_rfl) (by kernel_rfl) (by kernel_rfl) (fun _ _ _ h => h) (Or.inl ⟨rfl, fun w9 hSw => by have hc := hSw.1; go_simp⟩) hHeld ?_
      try simp only [Act.put, List.setIfInBounds_toArray, List.set_cons_zero, List.set_cons_succ]
      refine takeL 8 (.slice (some ⟨fb, fo, none⟩) bs.length cap) rfl (by kernel_rfl) (by kernel_rfl) (by kernel_rfl) (fun _ _ _ h => h) (Or.inl ⟨rfl, fun _ _ => rfl⟩) hHeld ?_
      try simp only [Act.put, List.setIfInBounds_toArray, List.set_cons_zero, List.set_cons_succ]
      refine takeL 9 (.int .i64 k) rfl (by kernel_rfl) (by kernel_rfl) (by kernel_rfl) (fun _ _ _ h => h) (Or.inl ⟨rfl, fun _ _ => rfl⟩) hHeld ?_
      try simp only [Act.put, List.setIfInBounds_toArray, List.set_cons_zero, List.set_cons_succ]
      refine takeL 10 (.pointer (some ⟨fb, fo + k * 2, none⟩)) rfl (by kernel_rfl) (by kernel_rfl) (by kernel_rfl) (fun _ _ _ h => h) (Or.inl ⟨rfl, fun w9 hSw => by go_simp⟩) hHeld ?_
      try simp only [Act.put, List.setIfInBounds_toArray, List.set_cons_zero, List.set_cons_succ]
      refine takeL 11 (.pointer (some ⟨fb, fo + k * 2 + 1, none⟩)) rfl (by kernel_rfl) (by kernel_rfl) (by kernel_rfl) (fun _ _ _ h => h) (Or.inl ⟨rfl, fun w9 hSw => by go_simp⟩) hHeld ?_
      try simp only [Act.put, List.setIfInBounds_toArray, List.set_cons_zero, List.set_cons_succ]
      refine takeL 12 (.int .i64 b.wn) rfl (by kernel_rfl) (by kernel_rfl) (by kernel_rfl) (fun _ _ _ h => h) (Or.inl ⟨rfl, fun w9 hSw => by have hc := hSw.2; go_simp⟩) hHeld ?_
      try simp only [Act.put, List.setIfInBounds_toArray, List.set_cons_zero, List.set_cons_succ]
      refine oneL 1 rfl (by kernel_rfl) rfl (fun K hK => ?_)
      go_simp
      refine hK.out _ _ ⟨by show (wr.alloc _).cell? _ = _; rw [World.cell?_alloc_lt _ _ _ lf]; exact c0, by show (wr.alloc _).cell? _ = _; rw [World.cell?_alloc_lt _ _ _ lf]; exact c1⟩ (fun hHeld => ?_)
      clear hK K
      try simp only [Act.put, List.setIfInBounds_toArray, List.set_cons_zero, List.set_cons_succ]
      have hold := ownB_lt ok
      have hrA : (wr.alloc (.cells #[] 33)).drew.rangeAt pb po (psC b.ps) := by simpa using World.rangeAt_alloc hr (.cells #[] 33)
      have oA := ok.far (((Below.refl wr.heap.size wr).alloc (Nat.le_refl _) (.cells #[] 33)).drew) hold
      have BA : Below w.heap.size w (wr.alloc (.cells #[] 33)).drew := (bw.alloc bw.size _).drew
      have rowA : (wr.alloc (.cells #[] 33)).drew.ownsRow wr.heap.size 33 5 (.slice (some ⟨wr.heap.size, 0, none⟩) 0 0) 0 [] := World.ownsRow_lit wr #[] 0 (Nat.le_refl _) (by simp [maxLen]) rfl
      have sA : (wr.alloc (.cells #[] 33)).drew.heap.size = wr.heap.size + 1 := by simp
      generalize (wr.alloc (.cells #[] 33)).drew = wA at *
      refine oneL 7 rfl (by kernel_rfl) rfl (fun K hK => ?_)
      obtain ⟨iP, hiP, hzP, hsP, hbP⟩ := infoP
      refine wp_append_lies wA _ _ 34 rfl wr.heap.size 33 iP (.agg (pgC zPg).toArray) 5 40 Try.underlying34 hiP hzP hsP hbP rfl (by omega) _ 0 [] rfl rowA ⟨pb, po, none⟩ 4 pc (psC b.ps) rfl hlp (src_mid hrA) (one_psC b.ps) (by omega) (by simp [maxLen]) (by omega) (by omega) _ rfl ?_
      intro p pcap wB ownB growB atB ltB
      have pB : wr.heap.size ≤ p := by
        rcases atB with h | h
        · have : wr.heap.size = p := Option.some.inj h
          omega
        · omega
      have hww := bw.size
      have GB : Below wr.heap.size wA wB := (Below.refl _ _).grown growB (by omega) (fun q hq => by have : wr.heap.size = q := Option.some.inj hq; omega)
      refine hK.out _ _ ⟨by rw [GB.cell (p := ⟨fb, fo + k * 2, none⟩) lf]; exact hHeld.1, by rw [GB.cell (p := ⟨fb, fo + k * 2 + 1, none⟩) lf]; exact hHeld.2⟩ (fun hHeld => ?_)
      clear hK K
      try simp only [Act.put, List.setIfInBounds_toArray, List.set_cons_zero, List.set_cons_succ]
      have oB := oA.far GB hold
      have BB := BA.trans (GB.mono bw.size)
      obtain ⟨rB, tB⟩ := row_pages (by omega) ownB
      have hpcap := row_cap (by omega) ownB
      clear ownB growB rowA oA GB hrA BA
      refine takeL 13 (.agg #[.slice (some ⟨p, 0, none⟩) 4 pcap, .int .i64 b.wn]) rfl (by kernel_rfl) (by kernel_rfl) (by kernel_rfl) (fun _ _ _ h => h) (Or.inl ⟨rfl, fun w9 hSw => by go_simp⟩) hHeld ?_
      try simp only [Act.put, List.setIfInBounds_toArray, List.set_cons_zero, List.set_cons_succ]
      refine oneL 14 rfl (by kernel_rfl) rfl (fun K hK => ?_)
      go_simp
      refine hK.out _ _ ⟨by rw [World.cell?_alloc_lt _ _ _ (by show fb < _; omega)]; exact hHeld.1, by rw [World.cell?_alloc_lt _ _ _ (by show fb < _; omega)]; exact hHeld.2⟩ (fun hHeld => ?_)
      clear hK K
      try simp only [Act.put, List.setIfInBounds_toArray, List.set_cons_zero, List.set_cons_succ]
      have oC := oB.far (B := wB.heap.size) ((Below.refl _ _).alloc (Nat.le_refl _) (.cells #[.slice (some ⟨p, 0, none⟩) 4 pcap, .int .i64 b.wn] 36)) (fun x hx => by have := hold x hx; omega)
      have BC := BB.alloc BB.size (.cells #[.slice (some ⟨p, 0, none⟩) 4 pcap, .int .i64 b.wn] 36)
      have rC := World.rangeAt_alloc rB (.cells #[.slice (some ⟨p, 0, none⟩) 4 pcap, .int .i64 b.wn] 36)
      have tC := World.there_alloc tB (.cells #[.slice (some ⟨p, 0, none⟩) 4 pcap, .int .i64 b.wn] 36)
      have nC := World.news_of_block (heap_alloc_new wB (.cells #[.slice (some ⟨p, 0, none⟩) 4 pcap, .int .i64 b.wn] 36))
      have sC : (wB.alloc (.cells #[.slice (some ⟨p, 0, none⟩) 4 pcap, .int .i64 b.wn] 36)).heap.size = wB.heap.size + 1 := by simp
      have sB := BB.size
      generalize wB.alloc (.cells #[.slice (some ⟨p, 0, none⟩) 4 pcap, .int .i64 b.wn] 36) = wC at *
      clear oB rB tB
      refine oneL 15 rfl (by kernel_rfl) rfl (fun K hK => ?_)
      obtain ⟨iB, hiB, hzB, hsB, hbB⟩ := infoB
      refine wp_append_lies wC _ _ 23 rfl w.heap.size 36 iB (.agg #[.slice none 0 0, .int .i64 0]) 2 32 Try.underlying23 hiB hzB hsB hbB rfl (by omega) u3 k ocs rfl (by have := oC.row; rw [tl] at this; exact this) ⟨wB.heap.size, 0, none⟩ 1 1 [.slice (some ⟨p, 0, none⟩) 4 pcap, .int .i64 b.wn] rfl rfl nC (by intro u hu; simp at hu; rcases hu with rfl | rfl <;> rfl) (by omega) (by simp [maxLen]; omega) (by omega) (by omega) _ rfl ?_
      intro g' cap' wD ownD growD atD ltD
      have oD := oC.push p pcap b (by omega) (by omega) (fun h => by have := hold p (.inl h); omega) (fun h => by have := hold p (.inr h); omega) rC (by rw [hb4]; exact tC) g' cap' (by rw [tl, hb4]; exact ownD) growD atD ltD (by omega) (by omega)
      have GD : Below w.heap.size wC wD := (Below.refl _ _).grown growD (by omega) (fun q hq => (oC.own q hq).1)
      have BD := BC.trans GD
      refine hK.out _ _ ⟨by rw [GD.cell (p := ⟨fb, fo + k * 2, none⟩) lfw]; exact hHeld.1, by rw [GD.cell (p := ⟨fb, fo + k * 2 + 1, none⟩) lfw]; exact hHeld.2⟩ (fun hHeld => ?_)
      clear hK K
      try simp only [Act.put, List.setIfInBounds_toArray, List.set_cons_zero, List.set_cons_succ]
      refine takeL 16 (.slice (some ⟨g', 0, none⟩) (k + 1) cap') rfl (by kernel_rfl) (by kernel_rfl) (by kernel_rfl) (fun _ _ _ h => h) (Or.inl ⟨rfl, fun _ _ => rfl⟩) hHeld ?_
      try simp only [Act.put, List.setIfInBounds_toArray, List.set_cons_zero, List.set_cons_succ]
      refine wpAnyH_done (by kernel_rfl) ?_ _
      refine NoPanic.normal ?_
      clear growD ownD GD oC BC rC tC nC c0 c1 hr ok
      go_wp2
      go_roundw
      case rel => exact ⟨k + 1, by omega, by first | rfl | go_num, ⟨G ++ [p], _, by rw [unhide HT]; rw [tl] at oD; exact oD⟩, BD⟩
      case measure => simp [intOf]; omega
end Go.Proofs.Ytkikeapfjpnkgaa.SpecC
