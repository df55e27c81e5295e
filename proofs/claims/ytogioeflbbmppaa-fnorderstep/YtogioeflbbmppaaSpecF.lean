/-
  The specification's finding: the greatest number of a block's records.
-/
import Derived.Test.YtogioeflbbmppaaSpecB
namespace Go.Proofs.Ytogioeflbbmppaa.SpecF
open Go.ChangeShapes Go.WideShapes Go.ChangeAt Go.RowKit OkA Big Fl ImplB ImplF ImplS Own ImplT ImplU SpecA SpecB
set_option linter.unusedVariables false
set_option linter.unusedSimpArgs false

def mx (m s : Int) : Int := if m < s then s else m
def mostN (ps : List Pg) : Int := ps.foldl (fun m p => mx m p.s) 0
theorem mostN_take (ps : List Pg) (j : Nat) (hj : j < ps.length) : mostN (ps.take (j + 1)) = mx (mostN (ps.take j)) ps[j].s := by
  unfold mostN
  rw [List.take_succ_eq_append_getElem hj, List.foldl_append]
  rfl

set_option maxHeartbeats 1000000 in
theorem most_any (a : Option Addr) (cap : Nat) (ps : List Pg) (wn : Int) (w : World) (h : PsAt w a ps) (hl : ps.length ≤ 1048576) :
    Calls Try.prog 87 #[.agg #[.slice a ps.length cap, .int .i64 wn]] w fun e w' => e = .returned (.int .i64 (mostN ps)) ∧ Below w.heap.size w w' := by
  have B0 : Below w.heap.size w (w.alloc (.cells #[.slice a ps.length cap, .int .i64 wn] 36)) := (Below.refl _ _).alloc (Nat.le_refl _) _
  have H := hide (h.below B0)
  have c0 : (w.alloc (.cells #[.slice a ps.length cap, .int .i64 wn] 36)).cell? ⟨w.heap.size, 0, none⟩ = some (.slice a ps.length cap) := by
    rw [World.cell?_alloc_at _ _ _ _ rfl]; rfl
  have HN : Hid (mostN (ps.take ps.length) = mostN ps) := by show _ = _; rw [List.take_of_length_le (Nat.le_refl _)]
  clear h
  generalize hn : ps.length = n at *
  have HL := hide hn
  clear hn
  have hli : (n : Int) ≤ 1048576 := by omega
  go_enter Try.func87, Try.ntmps87
  go_wp2
  generalize w.alloc (.cells #[.slice a n cap, .int .i64 wn] 36) = w1 at *
  go_loop [3, 4] (fun m i => ∃ k : Nat, k ≤ n ∧ i = .int .i64 k ∧ m = .int .i64 (mostN (ps.take k))) (fun _ i => n - (intOf i).toNat)
  case atStart => exact ⟨0, by omega, rfl, rfl⟩
  case round =>
    obtain ⟨k, hk, rfl, rfl⟩ := hrel
    by_cases h0 : k = n
    · subst h0
      go_wp2
      go_ret
      exact ⟨by rw [← unhide HN]; rfl, B0⟩
    · have hlt : (k : Int) < (n : Int) := by omega
      have hkb : k < ps.length := by have := unhide HL; omega
      have hlo : (0 : Int) ≤ (k : Int) := by omega
      obtain ⟨b1, o1, rfl, g1⟩ : ∃ b o, a = some ⟨b, o, none⟩ ∧ w1.rangeAt b o (psC ps) := by
        rcases unhide H with rfl | h
        · simp at hkb
        · exact h
      have d2 := (PsAt.cells g1 k hkb).2.2.1
      have HT := hide (mostN_take ps k hkb)
      clear g1
      generalize ps[k].s = s at *
      generalize hm : mostN (ps.take k) = m at *
      go_wp2
      go_round
      case rel => exact ⟨k + 1, by omega, by first | rfl | go_num, by rw [unhide HT]; rfl⟩
      case measure => simp [intOf]; omega

def mostB (bs : List Bk) : Int := bs.foldl (fun m b => mx m (mostN b.ps)) 0
theorem mostB_take (bs : List Bk) (j : Nat) (hj : j < bs.length) : mostB (bs.take (j + 1)) = mx (mostB (bs.take j)) (mostN bs[j].ps) := by
  unfold mostB
  rw [List.take_succ_eq_append_getElem hj, List.foldl_append]
  rfl
set_option maxHeartbeats 1000000 in
theorem next_any (a : Option Addr) (cap : Nat) (bs : List Bk) (w : World) (hf : FsAt w a bs) (hl : bs.length ≤ 1048576) (hp : ∀ b ∈ bs, b.ps.length ≤ 1048576) :
    Calls Try.prog 81 #[.slice a bs.length cap] w fun e w' => e = .returned (.int .i64 (wrap64 (mostB bs + 1))) ∧ Below w.heap.size w w' := by
  have H := hide hf
  have HP := hide hp
  have HN : Hid (mostB (bs.take bs.length) = mostB bs) := by show _ = _; rw [List.take_of_length_le (Nat.le_refl _)]
  clear hf hp
  generalize hn : bs.length = n at *
  have HL := hide hn
  clear hn
  have hli : (n : Int) ≤ 1048576 := by omega
  go_enter Try.func81, Try.ntmps81
  go_wp2
  go_loopw [3, 4] (fun m i w' => ∃ k : Nat, k ≤ n ∧ i = .int .i64 k ∧ m = .int .i64 (mostB (bs.take k)) ∧ Below w.heap.size w w') (fun _ i _ => n - (intOf i).toNat)
  case atStart => exact ⟨0, by omega, rfl, rfl, Below.refl _ _⟩
  case round =>
    obtain ⟨k, hk, rfl, rfl, bw⟩ := hrel
    by_cases h0 : k = n
    · subst h0
      rw [unhide HN]
      go_wp2
      go_ret
      exact ⟨rfl, bw⟩
    · have hlt : (k : Int) < (n : Int) := by omega
      have hkb : k < bs.length := by have := unhide HL; omega
      have hlo : (0 : Int) ≤ (k : Int) := by omega
      obtain ⟨b1, o1, rfl, g1⟩ : ∃ b o, a = some ⟨b, o, none⟩ ∧ ∀ i (hi : i < bs.length), BkAt wr b (o + i * 2) bs[i] := by
        rcases (unhide H).below bw with rfl | h
        · simp at hkb
        · exact h
      obtain ⟨p1, c1, d0, d1, q1⟩ := g1 k hkb
      have HC := hide (most_any p1 c1 bs[k].ps bs[k].wn wr q1 (unhide HP _ (List.getElem_mem hkb)))
      have HT := hide (mostB_take bs k hkb)
      clear g1 q1
      generalize bs[k].ps.length = q at *
      generalize mostN bs[k].ps = s at *
      generalize bs[k].wn = wn at *
      generalize hm : mostB (bs.take k) = m at *
      go_wp2_with fail
      refine (unhide HC).mono ?_
      rintro e w2 ⟨rfl, b2⟩
      have B2 := bw.trans (b2.mono bw.size)
      clear b2 bw d0 d1 HC
      go_wp2
      go_roundw
      case rel => exact ⟨k + 1, by omega, by first | rfl | go_num, by rw [unhide HT]; rfl, B2⟩
      case measure => simp [intOf]; omega
end Go.Proofs.Ytogioeflbbmppaa.SpecF
