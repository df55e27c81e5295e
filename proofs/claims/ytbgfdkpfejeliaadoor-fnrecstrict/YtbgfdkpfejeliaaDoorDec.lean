/-
  The contract of the specification's decimal numerals: for every number from 0 to 100000 the digits of it, nothing that was there turns.
-/
import Derived.Test.YtbgfdkpfejeliaaDoorRows
import Derived.WalkKit
import Derived.ProofKit
import Derived.OpenShut
import Derived.Below
import Derived.Handy
import Derived.Deep.RegionHeld3
import Derived.Deep.RegionWith
import Derived.Lib.ItoaNum
import Derived.WalkSmall
import Derived.Laws.IdiomStrings
namespace Go.Proofs.YtbgfdkpfejeliaaDoor.Dec
open Go.ChangeShapes Go.WideShapes Go.ChangeAt Go.RowKit
set_option linter.unusedVariables false

theorem bcell {W w1 : World} (hb : Below W.heap.size W w1) : (∀ b o, b < W.heap.size → w1.cell? ⟨b, o, none⟩ = W.cell? ⟨b, o, none⟩) ∧ (∀ b o, b < W.heap.size → w1.frozen? ⟨b, o, none⟩ = W.frozen? ⟨b, o, none⟩) :=
  ⟨fun b o h => hb.cell (p := ⟨b, o, none⟩) h, fun b o h => hb.frozen (p := ⟨b, o, none⟩) h⟩

def decS (n : Int) : ByteArray := ⟨(Lib.decDigits n.toNat).toArray⟩

theorem conv1 (w : World) (b : Nat) (d : Int) (h0 : 0 ≤ d) (h1 : d ≤ 255) (hc : w.cell? ⟨b, 0, none⟩ = some (.int .u8 d)) :
    (convert 22 9 (.slice (some ⟨b, 0, none⟩) 1 1)).run Tryd.prog w = .ok (.string ⟨#[UInt8.ofNat d.toNat]⟩) w := by
  have e : ((UInt8.ofNat d.toNat).toNat : Int) = d := by simp; omega
  have h := run_convert_bytes_back (P := Tryd.prog) w 22 9 5 ⟨b, 0, none⟩ 1 [UInt8.ofNat d.toNat] Tryd.underlying22 Tryd.underlying5 Tryd.underlying9 (fun j hj => by
    have hj0 : j = 0 := by simp at hj; omega
    subst hj0
    show w.cell? ⟨b, 0, none⟩ = some (.int .u8 ((UInt8.ofNat d.toNat).toNat : Int))
    rw [e]; exact hc)
  simpa using h

theorem dec_lt {n : Int} (h0 : 0 ≤ n) (h1 : n < 10) : decS n = ⟨#[UInt8.ofNat (48 + n).toNat]⟩ := by
  have e : (48 + n).toNat = 48 + n.toNat := by omega
  simp only [decS]
  rw [Lib.decDigits, dif_pos (by omega), e]
theorem dec_ge {n : Int} (h0 : ¬ n < 10) : decS n = decS (n / 10) ++ ⟨#[UInt8.ofNat (48 + n % 10).toNat]⟩ := by
  have e : (48 + n % 10).toNat = 48 + n.toNat % 10 := by omega
  have e2 : (n / 10).toNat = n.toNat / 10 := by omega
  simp only [decS]
  rw [Lib.decDigits, dif_neg (by omega), e, e2]
  exact (ByteArray.mk_append_mk _ [_]).symm

set_option maxRecDepth 100000 in
set_option maxHeartbeats 400000 in
theorem dec_small (n : Int) (w : World) (h0 : 0 ≤ n) (h1 : n < 10) :
    Calls Tryd.prog 26 #[.int .i64 n] w fun e w' => e = .returned (.string (decS n)) ∧ Below w.heap.size w w' := by
  have hb : ¬ n < -9223372036854775807 := by omega
  have hb0 : ¬ n < 0 := by omega
  rw [dec_lt h0 h1]
  have kc := fun (w : World) (b : Nat) hc => conv1 w b (48 + n) (by omega) (by omega) hc
  go_enter Tryd.func26, Tryd.ntmps26
  go_wp2_with fail
  go_ret
  exact ⟨rfl, by go_grown⟩

theorem nDigits_le6 (u : Nat) (h : u < 1000000) : Lib.nDigits u ≤ 6 := by
  by_cases h0 : u < 10
  · rw [Lib.nDigits_small h0]; omega
  rw [Lib.nDigits_big h0]
  by_cases h1 : u / 10 < 10
  · rw [Lib.nDigits_small h1]; omega
  rw [Lib.nDigits_big h1]
  by_cases h2 : u / 10 / 10 < 10
  · rw [Lib.nDigits_small h2]; omega
  rw [Lib.nDigits_big h2]
  by_cases h3 : u / 10 / 10 / 10 < 10
  · rw [Lib.nDigits_small h3]; omega
  rw [Lib.nDigits_big h3]
  by_cases h4 : u / 10 / 10 / 10 / 10 < 10
  · rw [Lib.nDigits_small h4]; omega
  rw [Lib.nDigits_big h4, Lib.nDigits_small (by omega)]; omega
theorem dec_size {n : Int} (h : n ≤ 100000) : (decS n).size ≤ 6 := by
  have := nDigits_le6 n.toNat (by omega)
  simpa [decS, ByteArray.size, Lib.decDigits_length] using this

set_option maxRecDepth 100000 in
set_option maxHeartbeats 1000000 in
theorem dec_any (k : Nat) : ∀ (n : Int) (w : World), 0 ≤ n → n ≤ k → n ≤ 100000 →
    Calls Tryd.prog 26 #[.int .i64 n] w fun e w' => e = .returned (.string (decS n)) ∧ Below w.heap.size w w' := by
  induction k with
  | zero => exact fun n w h0 h1 _ => dec_small n w h0 (by omega)
  | succ k ih =>
    intro n w h0 h1 h2
    by_cases h10 : n < 10
    · exact dec_small n w h0 h10
    have hb : ¬ n < -9223372036854775807 := by omega
    have hb0 : ¬ n < 0 := by omega
    have hd0 : 0 ≤ n / 10 := by omega
    have hd1 : n / 10 ≤ k := by omega
    have hm0 : 0 ≤ n % 10 := by omega
    have hm1 : n % 10 < 10 := by omega
    have kc := fun (w : World) (b : Nat) hc => conv1 w b (48 + n % 10) (by omega) (by omega) hc
    have q1 : n.tdiv 10 = n / 10 := Int.tdiv_eq_ediv_of_nonneg h0
    have q2 : n.tmod 10 = n % 10 := Int.tmod_eq_emod_of_nonneg h0
    have q3 : IntKind.i64.wrap (n / 10) = n / 10 := by rw [IntKind.wrap_i64]; omega
    have q4 : IntKind.i64.wrap (48 + n % 10) = 48 + n % 10 := by rw [IntKind.wrap_i64]; omega
    have q5 : IntKind.u8.wrap (48 + n % 10) = 48 + n % 10 := by rw [IntKind.wrap_u8]; omega
    have hsz : (decS (n / 10)).size ≤ 6 := dec_size (by omega)
    have IH : Hid _ := ih
    clear ih
    rw [dec_ge h10]
    go_enter Tryd.func26, Tryd.ntmps26
    go_wp2_with fail
    go_region_with (first | (go_at_call 26; refine (IH.out _ _ hd0 hd1 (by omega)).mono ?_; rintro e w' ⟨rfl, hbw⟩; obtain ⟨hc, hf⟩ := bcell hbw))
    · go_wp2_with fail
      go_ret
      exact ⟨rfl, ((below_drewN (Below.refl _ _) 1).trans hbw).alloc hbw.size _⟩
    all_goals
      go_wp2_with fail
      go_ret
      exact ⟨rfl, (below_drewN ((Below.refl _ _).alloc (Nat.le_refl _) _) 1).trans (hbw.mono (by simp))⟩

theorem dec_calls (n : Int) (w : World) (h0 : 0 ≤ n) (h1 : n ≤ 100000) :
    Calls Tryd.prog 26 #[.int .i64 n] w fun e w' => e = .returned (.string (decS n)) ∧ Below w.heap.size w w' :=
  dec_any 100000 n w h0 (by omega) h1
end Go.Proofs.YtbgfdkpfejeliaaDoor.Dec
