/-
  What a wipe leaves, for the laws that draw.
-/
import Derived.Test.YtogioeflbbmppaaDrwD
import Derived.Test.YtogioeflbbmppaaPlB
import Derived.Test.YtogioeflbbmppaaLo
import Derived.Lib.SmallJoins
namespace Go.Proofs.Ytogioeflbbmppaa.Wp
open Go.ChangeShapes Go.WideShapes Go.ChangeAt Go.RowKit Go.Shelf Go.Joins OkA Big Fl ImplB ImplF ImplS ImplT ImplU SpecA SpecB SpecC SpecD SpecW SpecX SpecF SpecG SpecH FindP FindN FindO FindD ImplW ImplX Pick Draw ClA DrB PlB LawsE
open FlB (FsN)
set_option linter.unusedVariables false
set_option linter.unusedSimpArgs false
attribute [local go_sem ↓] Go.wp_at_zero Go.wp_at_succ

theorem wiR_len {bs : List Bk} {k : Int} {torn : Bool} (h4 : bs.length ≤ 4) : (wiR bs k torn).length ≤ 4 := by
  unfold wiR
  split
  · split
    · exact h4
    · rw [SpecX.wiL_len]; exact h4
  · simp
theorem wiR_pgs {bs : List Bk} {k : Int} {torn : Bool} (hp : ∀ b ∈ bs, b.ps.length ≤ 4) : ∀ b ∈ wiR bs k torn, b.ps.length ≤ 4 := by
  unfold wiR
  split
  · split
    · exact hp
    · intro b hb
      rcases List.mem_or_eq_of_mem_set hb with h | rfl
      · exact hp b h
      · simp [wiB]
  · intro b hb; simp at hb
theorem others_wi {bs : List Bk} {kn : Nat} {torn : Bool} : ∀ i (hi : i < (wiL bs kn torn).length) (hj : i < bs.length), (i : Int) ≠ (kn : Int) → (wiL bs kn torn)[i] = bs[i] := fun i hi hj hne => by
  unfold wiL
  exact List.getElem_set_ne (fun e => hne (by omega)) _
theorem wiL_at {bs : List Bk} {kn : Nat} {torn : Bool} (h : kn < bs.length) (h' : kn < (wiL bs kn torn).length) : (wiL bs kn torn)[kn] = wiB bs[kn] torn := by
  have e := Ok2.getD_in bs kn h
  simp only [wiL, e, List.getElem_set_self]
theorem wrap_in (n : Int) (h : -9223372036854775808 ≤ n) (h' : n ≤ 9223372036854775807) : IntKind.i64.wrap n = n := by
  rw [IntKind.wrap_i64]; omega
theorem wi_range {w : World} {pb po : Nat} {b : Bk} {torn : Bool} (hr : w.rangeAt pb po (psC (wiB b torn).ps)) (j : Nat) (hj : j < 4) : w.rangeAt pb (po + j * 5) (pgC (pgS torn)) := by
  have h := range_pg hr j (by simp [wiB]; exact hj)
  have e : (wiB b torn).ps[j]'(by simp [wiB]; exact hj) = pgS torn := by simp only [wiB, List.getElem_replicate]
  rw [e] at h
  exact h
def OutN (w : World) (L : List Bk) (n : Nat) (ok : Bool) (e : Ending) (w' : World) : Prop := ∃ a c, e = .returned (.tuple #[.slice a n c, .bool ok]) ∧ FsAt w' a L ∧ Below w.heap.size w w'
theorem OutN.of {w : World} {L M : List Bk} {n : Nat} {ok : Bool} {e : Ending} {w' : World} (h : OutPost w M ok e w') (hM : M = L) (hl : L.length = n) : OutN w L n ok e w' := by
  subst hM hl
  obtain ⟨v, rfl, X, b⟩ := h
  obtain ⟨a, c, rfl, hx⟩ := Own.NewFs.form X
  exact ⟨a, c, rfl, hx, b⟩
theorem wipe_yes (a : Option Addr) (cap n : Nat) (kn : Nat) (torn : Bool) (bs : List Bk) (w : World) (hf : FsAt w a bs) (hn : bs.length = n) (h : wiO bs (kn : Int) = true) :
    Calls Try.prog 36 #[.slice a n cap, .int .i64 kn, .bool torn] w fun e w' => OutN w (wiL bs kn torn) n true e w' := by
  subst hn
  have hl := ok_len (wiR_yes (torn := torn) h).2.2.1
  refine (implWipe_any a cap (kn : Int) torn bs w hf (by omega)).mono fun e w' hp => ?_
  rw [h] at hp
  exact OutN.of hp (by have := (wiR_yes (torn := torn) h).1; simpa using this) SpecX.wiL_len
theorem wipe_no (a : Option Addr) (cap n : Nat) (kn : Nat) (torn : Bool) (bs : List Bk) (w : World) (hf : FsAt w a bs) (hn : bs.length = n) (hok : okB bs = true) (hK : kn < 4) (h : wiO bs (kn : Int) = false) :
    Calls Try.prog 36 #[.slice a n cap, .int .i64 kn, .bool torn] w fun e w' => OutN w bs n false e w' := by
  subst hn
  have hl := ok_len hok
  refine (implWipe_any a cap (kn : Int) torn bs w hf (by omega)).mono fun e w' hp => ?_
  rw [h] at hp
  exact OutN.of hp (wiR_no (torn := torn) hok (by omega) (by omega) h).1 rfl
theorem wiO_iff {bs : List Bk} (hok : okB bs = true) (kn : Nat) (hK : kn < 4) (hl : kn < bs.length) : (wiO bs (kn : Int) = true ↔ bs[kn].wn < 200) := by
  have hin : inB (kn : Int) 0 3 = true := by simp [inB]; omega
  unfold wiO wiN
  rw [hok, hin, Int.toNat_natCast, Ok2.getD_in bs kn hl]
  simp
theorem size_pgw (p : Pg) : (Try.prog.info? 33).map (·.size) = some (pgC p).length := by rw [len_pgC]; kernel_rfl
end Go.Proofs.Ytogioeflbbmppaa.Wp
