/-
  The specification's FlashOk, FlashClean and search for a number, for every list of blocks.
-/
import Derived.Test.YtogioeflbbmppaaSpecA
namespace Go.Proofs.Ytogioeflbbmppaa.SpecB
open Go.ChangeShapes Go.WideShapes Go.ChangeAt Go.RowKit OkA Big Fl ImplB ImplF ImplS Own ImplT ImplU SpecA
set_option linter.unusedVariables false
set_option linter.unusedSimpArgs false

set_option maxHeartbeats 400000 in
theorem specOk_nil (a : Option Addr) (cap : Nat) (w : World) :
    Calls Try.prog 32 #[.slice a 0 cap] w fun e w' => e = .returned (.bool false) ∧ Below w.heap.size w w' := by
  go_enter Try.func32, Try.ntmps32
  go_wp2_with (first | (refine wpList_make_big rfl 79 _ _ rfl 601 rfl rfl 4 1 1 (.bool false) Try.underlying79 (by kernel_rfl) (by omega) (by omega) ?_))
  have b0 : Below w.heap.size w (w.alloc (.cells (madeCells #[.bool false] 601) 4)) := (Below.refl _ _).alloc (Nat.le_refl _) _
  generalize w.alloc (.cells (madeCells #[.bool false] 601) 4) = w1 at *
  go_rounds 1
  go_ret
  exact ⟨rfl, b0⟩
theorem specFlashOk_any (a : Option Addr) (cap : Nat) (bs : List Bk) (w : World) (hf : FsAt w a bs) (hm : bs.length ≤ 1048576) :
    Calls Try.prog 32 #[.slice a bs.length cap] w fun e w' => e = .returned (.bool (okB bs)) ∧ Below w.heap.size w w' := by
  rcases hf with rfl | ⟨b, o, rfl, h⟩
  · exact specOk_nil a cap w
  · exact specOkF b o cap bs w hm h

def cleanN (ps : List Pg) : Nat := (ps.filter clB).length
theorem cleanN_take (ps : List Pg) (k : Nat) (hk : k < ps.length) : cleanN (ps.take (k + 1)) = cleanN (ps.take k) + if clB ps[k] then 1 else 0 := by
  rw [List.take_succ_eq_append_getElem hk]
  unfold cleanN
  rw [List.filter_append, List.length_append]
  cases h : clB ps[k] <;> simp [h]
theorem cleanN_le (ps : List Pg) : cleanN ps ≤ ps.length := List.length_filter_le _ _

set_option maxHeartbeats 400000 in
theorem l2Clean_any (pb po cap : Nat) (ps : List Pg) (wn : Int) (w : World) (h4 : ps.length = 4) (hr : w.rangeAt pb po (psC ps)) :
    Calls Try.prog 89 #[.agg #[.slice (some ⟨pb, po, none⟩) 4 cap, .int .i64 wn]] w fun e w' => e = .returned (.int .i64 (cleanN ps)) ∧ Below w.heap.size w w' := by
  have hr1 := World.rangeAt_alloc hr (.cells #[.slice (some ⟨pb, po, none⟩) 4 cap, .int .i64 wn] 36)
  have HR := hide hr1
  clear hr hr1
  go_enter Try.func89, Try.ntmps89
  go_wp2
  go_loop [3, 4] (fun n i => ∃ k : Nat, k ≤ 4 ∧ i = .int .i64 k ∧ n = .int .i64 (cleanN (ps.take k))) (fun _ i => 4 - (intOf i).toNat)
  case atStart => exact ⟨0, by omega, rfl, rfl⟩
  case round =>
    obtain ⟨k, hk, rfl, rfl⟩ := hrel
    by_cases h0 : k = 4
    · subst h0
      have e : ps.take 4 = ps := List.take_of_length_le (by omega)
      have E := hide e
      clear e
      go_wp2
      go_ret
      exact ⟨by rw [unhide E]; rfl, (Below.refl _ _).alloc (Nat.le_refl _) _⟩
    · have hlt : (k : Int) < 4 := by omega
      have hlo : (0 : Int) ≤ (k : Int) := by omega
      have hkb : k < ps.length := by omega
      have c0 := (PsAt.cells (unhide HR) k hkb).1
      have hn := cleanN_le (ps.take k)
      have hn2 : (ps.take k).length ≤ 4 := by simp; omega
      have HT := hide (cleanN_take ps k hkb)
      generalize ps[k] = p at *
      by_cases hp : p.st = 0
      · have g : (p.st == 0) = true := by simpa using hp
        have HP := hide hp
        clear hp
        go_wp2
        go_round
        case rel =>
          have h0 := unhide HT
          rw [if_pos (by simpa [clB] using unhide HP)] at h0
          exact ⟨k + 1, by omega, by first | rfl | go_num, by rw [h0]; go_num⟩
        case measure => simp [intOf]; omega
      · have g : (p.st == 0) = false := by simpa using hp
        have HP := hide hp
        clear hp
        go_wp2
        go_round
        case rel =>
          have h0 := unhide HT
          rw [if_neg (by simpa [clB] using unhide HP)] at h0
          exact ⟨k + 1, by omega, by first | rfl | go_num, by rw [h0]; rfl⟩
        case measure => simp [intOf]; omega

/-- Of an ok block the clean pages are all behind the used ones. -/
theorem clean_used (ps : List Pg) (h : tailB ps = true) : cleanN ps + usedN ps = ps.length := by
  induction ps with
  | nil => rfl
  | cons p r ih =>
    have hh := h
    simp only [tailB, Bool.and_eq_true, Bool.or_eq_true, Bool.not_eq_true'] at h
    have ih' := ih h.2
    simp only [usedN, List.length_cons]
    cases hc : clB p
    · have e : cleanN (p :: r) = cleanN r := by simp [cleanN, hc]
      rw [e]
      by_cases h0 : usedN r = 0
      · rw [if_pos h0]; simp; omega
      · rw [if_neg h0]; omega
    · have e : cleanN (p :: r) = cleanN r + 1 := by simp [cleanN, hc]
      have h0 : usedN r = 0 := (usedN_zero r).2 (by rcases h.1 with g | g; rw [hc] at g; cases g; exact g)
      rw [e, if_pos h0]
      simp
      omega
theorem ok_tail {bs : List Bk} (h : okB bs = true) (k : Nat) (hk : k < bs.length) : tailB bs[k].ps = true := by
  simp only [okB, Bool.and_eq_true, List.all_eq_true] at h
  have := h.1.2 _ (List.getElem_mem hk)
  simp only [bkB, Bool.and_eq_true] at this
  exact this.2

/-- A block that there is, of ok blocks: where it lies. -/
theorem ok_at {w : World} {a : Option Addr} {bs : List Bk} (hf : FsAt w a bs) (h : okB bs = true) (k : Nat) (hk : k < 4) :
    ∃ fb fo pb po pc, a = some ⟨fb, fo, none⟩ ∧ w.cell? ⟨fb, fo + k * 2, none⟩ = some (.slice (some ⟨pb, po, none⟩) 4 pc) ∧ w.cell? ⟨fb, fo + k * 2 + 1, none⟩ = some (.int .i64 (bs[k]'(by have := ok_len h; omega)).wn) ∧ w.rangeAt pb po (psC (bs[k]'(by have := ok_len h; omega)).ps) := by
  have h4 := ok_len h
  have hb4 := (ok_fours h).at k (by omega)
  rcases hf with rfl | ⟨fb, fo, rfl, hf⟩
  · simp at h4
  · obtain ⟨pa, pc, c0, c1, hps⟩ := hf k (by omega)
    rcases hps with e | ⟨pb, po, rfl, hr⟩
    · rw [e] at hb4; simp at hb4
    · rw [hb4] at c0
      exact ⟨fb, fo, pb, po, pc, rfl, c0, c1, hr⟩

set_option maxHeartbeats 400000 in
theorem specClean_any (a : Option Addr) (cap : Nat) (blk : Int) (bs : List Bk) (w : World) (hf : FsAt w a bs) (hm : bs.length ≤ 1048576) :
    Calls Try.prog 62 #[.slice a bs.length cap, .int .i64 blk] w fun e w' => e = .returned (.int .i64 (cleanR bs blk)) ∧ Below w.heap.size w w' := by
  have HC := hide (specFlashOk_any a cap bs w hf hm)
  cases hs : okB bs
  · have HR : Hid (cleanR bs blk = -1) := by unfold cleanR; rw [hs]; rfl
    rw [hs] at HC
    clear hs hf
    go_enter Try.func62, Try.ntmps62
    go_wp2_with fail
    refine (unhide HC).mono ?_
    rintro e w1 ⟨rfl, b1⟩
    go_wp2
    go_ret
    exact ⟨by rw [unhide HR]; rfl, b1⟩
  · cases hb : inB blk 0 3
    · have HR : Hid (cleanR bs blk = -1) := by unfold cleanR; rw [hs, hb]; rfl
      have HI := hide (l6In_any blk 0 3)
      rw [hs] at HC
      rw [hb] at HI
      clear hs hf hb
      go_enter Try.func62, Try.ntmps62
      go_wp2_with fail
      refine (unhide HC).mono ?_
      rintro e w1 ⟨rfl, b1⟩
      go_wp2_with (go_at_call 63; refine (unhide HI _).mono ?_; rintro e w' ⟨rfl, rfl⟩)
      go_ret
      exact ⟨by rw [unhide HR]; rfl, b1⟩
    · obtain ⟨k, rfl, hk⟩ := in_range hb
      have h4 := ok_len hs
      have hkb : k < bs.length := by omega
      obtain ⟨fb, fo, pb, po, pc, rfl, c0, c1, hr⟩ := ok_at hf hs k hk
      have HR : Hid (cleanR bs (k : Int) = cleanN bs[k].ps) := by
        have h1 := clean_used bs[k].ps (ok_tail hs k hkb)
        rw [(ok_fours hs).at k hkb] at h1
        unfold cleanR; rw [hs, hb, Bool.and_true, if_pos rfl, Int.toNat_natCast, List.getD_eq_getElem?_getD, List.getElem?_eq_getElem hkb]
        show (4 : Int) - _ = _
        simp only [Option.getD_some]
        omega
      have hb4 := (ok_fours hs).at k hkb
      have HI := hide (l6In_any (k : Int) 0 3)
      rw [hs] at HC
      rw [hb] at HI
      have hlo : (0 : Int) ≤ (k : Int) := by omega
      have hhi : (k : Int) < 4 := by omega
      rw [h4] at HC ⊢
      generalize bs[k] = b at *
      clear hs hf hb h4
      go_enter Try.func62, Try.ntmps62
      go_wp2_with fail
      refine (unhide HC).mono ?_
      rintro e w1 ⟨rfl, b1⟩
      rw [← b1.cell (p := ⟨fb, fo + k * 2, none⟩) (cell_lt c0)] at c0
      rw [← b1.cell (p := ⟨fb, fo + k * 2 + 1, none⟩) (cell_lt c1)] at c1
      have hr1 := rangeAt_below hr b1 (cell_lt (PsAt.cells hr 0 (by omega)).1)
      clear hr
      go_wp2_with (go_at_call 63; refine (unhide HI _).mono ?_; rintro e w' ⟨rfl, hw'⟩; obtain rfl := hw'.symm)
      refine (l2Clean_any pb po pc b.ps b.wn _ hb4 hr1).mono ?_
      rintro e w2 ⟨rfl, b2⟩
      clear c0 c1 hr1
      go_wp2
      go_ret
      exact ⟨by rw [unhide HR]; rfl, b1.trans (b2.mono b1.size)⟩
end Go.Proofs.Ytogioeflbbmppaa.SpecB
