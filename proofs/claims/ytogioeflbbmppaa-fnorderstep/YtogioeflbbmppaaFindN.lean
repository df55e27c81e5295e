/-
  FindNext, of the program and of the specification: both answer the same.
-/
import Derived.Test.YtogioeflbbmppaaImplM
import Derived.Test.YtogioeflbbmppaaSpecX
namespace Go.Proofs.Ytogioeflbbmppaa.FindN
open Go.ChangeShapes Go.WideShapes Go.ChangeAt Go.RowKit Go.Shelf OkA Big Fl ImplB ImplF ImplS _root_.Go.Proofs.Ytogioeflbbmppaa.Own ImplT ImplU SpecA SpecB SpecC SpecD SpecW SpecF SpecG SpecH Ok2 Pl FindP ImplO SpecX ImplL ImplN ImplM
set_option linter.unusedVariables false
set_option linter.unusedSimpArgs false
attribute [local go_sem ↓] Go.wp_at_zero Go.wp_at_succ

def grL (l : List Sp) : Int := l.foldl (fun m x => mx m x.2) 0
theorem grL_take (l : List Sp) (j : Nat) (hj : j < l.length) : grL (l.take (j + 1)) = mx (grL (l.take j)) l[j].2 := by
  unfold grL
  rw [List.take_succ_eq_append_getElem hj, List.foldl_append]; rfl
theorem gr_most (bs : List Bk) (h : ∀ b ∈ bs, ∀ p ∈ b.ps, pgB p = true) : grL (bs.map spB) = mostB bs := by
  unfold grL mostB
  rw [List.foldl_map]
  have : ∀ (l : List Bk) (m : Int), (∀ b ∈ l, ∀ p ∈ b.ps, pgB p = true) → l.foldl (fun m b => mx m (spB b).2) m = l.foldl (fun m b => mx m (mostN b.ps)) m := by
    intro l
    induction l with
    | nil => intro m _; rfl
    | cons b r ih =>
      intro m hb
      rw [List.foldl_cons, List.foldl_cons, (spB_eq (hb b (by simp))).1]
      exact ih _ fun x hx => hb x (by simp [hx])
  exact this bs 0 h
theorem mostN_le (ps : List Pg) (h : ∀ p ∈ ps, pgB p = true) : 0 ≤ mostN ps ∧ mostN ps ≤ 600 := by
  have : ∀ (l : List Pg) (m : Int), 0 ≤ m → m ≤ 600 → (∀ p ∈ l, pgB p = true) → 0 ≤ l.foldl (fun m p => mx m p.s) m ∧ l.foldl (fun m p => mx m p.s) m ≤ 600 := by
    intro l
    induction l with
    | nil => intro m h0 h1 _; exact ⟨h0, h1⟩
    | cons p r ih =>
      intro m h0 h1 hp
      have hs := FindP.pg_seq (hp p (by simp))
      rw [List.foldl_cons]
      refine ih _ ?_ ?_ fun x hx => hp x (by simp [hx])
      · unfold mx; split <;> omega
      · unfold mx; split <;> omega
  exact this ps 0 (by omega) (by omega) h
theorem mostB_le (bs : List Bk) (h : ∀ b ∈ bs, ∀ p ∈ b.ps, pgB p = true) : 0 ≤ mostB bs ∧ mostB bs ≤ 600 := by
  have : ∀ (l : List Bk) (m : Int), 0 ≤ m → m ≤ 600 → (∀ b ∈ l, ∀ p ∈ b.ps, pgB p = true) → 0 ≤ l.foldl (fun m b => mx m (mostN b.ps)) m ∧ l.foldl (fun m b => mx m (mostN b.ps)) m ≤ 600 := by
    intro l
    induction l with
    | nil => intro m h0 h1 _; exact ⟨h0, h1⟩
    | cons b r ih =>
      intro m h0 h1 hp
      have hs := mostN_le b.ps (hp b (by simp))
      rw [List.foldl_cons]
      refine ih _ ?_ ?_ fun x hx => hp x (by simp [hx])
      · unfold mx; split <;> omega
      · unfold mx; split <;> omega
  exact this bs 0 (by omega) (by omega) h
/-- What FindNext answers. -/
def nextR (bs : List Bk) : Int := if okB bs then mostB bs + 1 else 0

set_option maxHeartbeats 1000000 in
theorem greatest_any (l : List Sp) (h4 : l.length = 4) (w : World) :
    Calls Try.prog 100 #[.agg (spsC l).toArray] w fun e w' => e = .returned (.int .i64 (grL l)) ∧ Below w.heap.size w w' := by
  have r0 := rangeAt_new w (spsC l) 108
  have b0 : Below w.heap.size w (w.alloc (.cells (spsC l).toArray 108)) := (Below.refl _ _).alloc (Nat.le_refl _) _
  have HG : Hid (grL (l.take 4) = grL l) := by show _ = _; rw [List.take_of_length_le (by omega)]
  go_enter Try.func100, Try.ntmps100
  go_wp2_with (first | (refine wpList_box_big rfl _ _ rfl (spsC l).toArray rfl ?_) | (refine wpList_load_mid rfl 108 _ rfl w.heap.size 0 rfl (spsC l) _ r0 Try.underlying108 rfl (size_sps h4) ?_))
  clear r0
  generalize hw1 : w.alloc (.cells (spsC l).toArray 108) = w1 at *
  clear hw1
  go_loopw [3, 7] (fun m i w' => ∃ k : Nat, k ≤ 4 ∧ i = .int .i64 k ∧ m = .int .i64 (grL (l.take k)) ∧ Below w.heap.size w w') (fun _ i _ => 4 - (intOf i).toNat)
  case atStart => exact ⟨0, by omega, rfl, rfl, b0⟩
  case round =>
    obtain ⟨k, hk, rfl, rfl, bw⟩ := hrel
    by_cases h0 : k = 4
    · subst h0
      go_wp2
      go_ret
      exact ⟨by rw [← unhide HG]; rfl, bw⟩
    · have hlt : (k : Int) < 4 := by omega
      have hkb : k < l.length := by omega
      have hlo : (0 : Int) ≤ (k : Int) := by omega
      have HE := hide (ext_sps l k hkb)
      have HT := hide (grL_take l k hkb)
      have hbz := bw.size
      generalize l[k] = x at *
      generalize hm : grL (l.take k) = m at *
      go_wp2_with (refine wpList_index_big rfl 108 _ _ rfl (spsC l).toArray _ (k : Int) rfl rfl 107 4 2 _ Try.underlying108 Try.underlying107 rfl (by kernel_rfl) hlo hlt (unhide HE) ?_)
      go_roundw
      case rel => exact ⟨k + 1, by omega, by first | rfl | go_num, by rw [unhide HT]; rfl, bw.alloc hbz _⟩
      case measure => simp [intOf]; omega

set_option maxHeartbeats 400000 in
theorem specNext_any (a : Option Addr) (cap : Nat) (bs : List Bk) (w : World) (hf : FsAt w a bs) (hm : bs.length ≤ 1048576) (hp : ∀ b ∈ bs, b.ps.length ≤ 1048576) :
    Calls Try.prog 48 #[.slice a bs.length cap] w fun e w' => e = .returned (.int .i64 (nextR bs)) ∧ Below w.heap.size w w' := by
  have HC := hide (specFlashOk_any a cap bs w hf hm)
  have HF := hide hf
  clear hf
  have HR : Hid (nextR bs = if okB bs then mostB bs + 1 else 0) := rfl
  generalize nextR bs = R at *
  cases hok : okB bs
  · rw [hok] at HC HR
    go_enter Try.func48, Try.ntmps48
    go_wp2_with fail
    refine (unhide HC).mono ?_
    rintro e w1 ⟨rfl, b1⟩
    go_wp2
    go_ret
    exact ⟨by rw [unhide HR]; rfl, b1⟩
  · have hmb := mostB_le bs (ok_pages hok)
    have HW : Hid (wrap64 (mostB bs + 1) = mostB bs + 1) := by show _ = _; unfold wrap64; omega
    rw [hok] at HC HR
    rw [if_pos rfl] at HR
    go_enter Try.func48, Try.ntmps48
    go_wp2_with fail
    refine (unhide HC).mono ?_
    rintro e w1 ⟨rfl, b1⟩
    go_wp2_with fail
    refine (next_any a cap bs _ ((unhide HF).below b1) hm hp).mono ?_
    rintro e w2 ⟨rfl, b2⟩
    rw [unhide HW, ← unhide HR]
    clear hmb
    go_wp2
    go_ret
    exact ⟨rfl, b1.trans (b2.mono b1.size)⟩

set_option maxHeartbeats 400000 in
theorem nextK_any (ks : List Bk) (hok : okB ks = true) (w : World) :
    Calls Try.prog 80 #[.agg (fsC ks).toArray] w fun e w' => e = .returned (.int .i64 (mostB ks + 1)) ∧ Below w.heap.size w w' := by
  have hk4 := ok_len hok
  have hkF := ok_fours hok
  have r1 := rangeAt_new w (fsC ks) 73
  have B1 : Below w.heap.size w (w.alloc (.cells (fsC ks).toArray 73)) := (Below.refl _ _).alloc (Nat.le_refl _) _
  have hmb := mostB_le ks (ok_pages hok)
  have HG := hide (gr_most ks (ok_pages hok))
  have HR : Hid (mostB ks + 1 = mostB ks + 1) := rfl
  generalize hRR : mostB ks + 1 = R at HR ⊢
  have HRR := hide hRR
  clear hRR HR
  go_enter Try.func80, Try.ntmps80
  go_wp2_with (first | (refine wpList_box_big rfl _ _ rfl (fsC ks).toArray rfl ?_) | (refine wpList_load_mid rfl 73 _ rfl w.heap.size 0 rfl (fsC ks) _ r1 Try.underlying73 rfl (size_fsl hkF hk4) ?_))
  refine (callsIn_wide.1 (spans_in ks hk4 hkF _)).mono ?_
  rintro e w2 ⟨rfl, b2⟩
  clear r1
  go_wp2_with fail
  refine (greatest_any (ks.map spB) (by rw [List.length_map, hk4]) _).mono ?_
  rintro e w3 ⟨rfl, b3⟩
  rw [unhide HG]
  generalize mostB ks = m at *
  go_wp2
  go_ret
  exact ⟨by rw [← unhide HRR]; rfl, B1.trans ((b2.mono B1.size).trans (b3.mono (B1.trans (b2.mono B1.size)).size))⟩

set_option maxHeartbeats 400000 in
theorem implNext_any (a : Option Addr) (cap : Nat) (bs : List Bk) (w : World) (hf : FsAt w a bs) (hm : bs.length ≤ 9223372036854775807) :
    Calls Try.prog 47 #[.slice a bs.length cap] w fun e w' => e = .returned (.int .i64 (nextR bs)) ∧ Below w.heap.size w w' := by
  obtain ⟨zf, hz, hz84⟩ := zrow
  have HZ := hide hz
  clear hz
  have HR : Hid (nextR bs = if okB bs then mostB bs + 1 else 0) := rfl
  generalize nextR bs = R at *
  go_enter Try.func47, Try.ntmps47
  go_wp2_with fail
  refine (ofz_any a cap bs _ hf hm).mono ?_
  rintro e w1 ⟨ks, rfl, hk4, hkF, hke, b1⟩
  have hsz : zf.size = (fsC ks).toArray.size := by rw [hz84, List.size_toArray, len_fsC _ hkF, hk4]
  have r1 := rangeAt_new w1 (fsC ks) 73
  have B1 := b1.alloc b1.size (.cells (fsC ks).toArray 73)
  clear b1
  cases hs : okB bs
  · rw [hs] at HR
    clear hs hke
    go_wp2_with (first | (refine wpList_alloc_big rfl 73 rfl zf (unhide HZ) ?_) | (refine wpList_store_new rfl 73 _ _ rfl w1 zf (fsC ks).toArray rfl rfl rfl (size_fsa hkF hk4) hsz (one_fs ks) ?_))
    go_ret
    exact ⟨by rw [unhide HR]; rfl, B1⟩
  · obtain rfl := hke hs
    have HN := hide (nextK_any ks hs)
    rw [hs, if_pos rfl] at HR
    rw [← unhide HR] at HN
    clear hs hke
    go_wp2_with (first | (refine wpList_alloc_big rfl 73 rfl zf (unhide HZ) ?_) | (refine wpList_store_new rfl 73 _ _ rfl w1 zf (fsC ks).toArray rfl rfl rfl (size_fsa hkF hk4) hsz (one_fs ks) ?_) | (refine wpList_load_mid rfl 73 _ rfl w1.heap.size 0 rfl (fsC ks) _ r1 Try.underlying73 rfl (size_fsl hkF hk4) ?_))
    refine (unhide HN _).mono ?_
    rintro e w2 ⟨rfl, b2⟩
    clear r1
    go_wp2
    go_ret
    exact ⟨rfl, B1.trans (b2.mono B1.size)⟩
end Go.Proofs.Ytogioeflbbmppaa.FindN
