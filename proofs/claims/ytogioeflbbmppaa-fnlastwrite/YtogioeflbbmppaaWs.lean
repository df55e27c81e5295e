/-
  What a write leaves, for the laws that draw.
-/
import Derived.Test.YtogioeflbbmppaaDrW
import Derived.Test.YtogioeflbbmppaaPlB
import Derived.Test.YtogioeflbbmppaaWp
import Derived.Test.YtogioeflbbmppaaSpecY
import Derived.Test.YtogioeflbbmppaaImplX
import Derived.Lib.SmallJoins
namespace Go.Proofs.Ytogioeflbbmppaa.Ws
open Go.ChangeShapes Go.WideShapes Go.ChangeAt Go.RowKit Go.Shelf Go.Joins OkA Big Fl ImplB ImplF ImplS ImplT ImplU SpecA SpecB SpecC SpecD SpecW SpecX SpecF SpecG SpecH FindP FindN FindO FindD ImplW ImplX Pick Draw ClA DrB PlB LawsE Lq Lo Wp Ok2
open FlB (FsN)
set_option linter.unusedVariables false
set_option linter.unusedSimpArgs false
attribute [local go_sem ↓] Go.wp_at_zero Go.wp_at_succ

theorem wrR_len {bs : List Bk} {k rk rs ra rv : Int} {torn : Bool} (h4 : bs.length ≤ 4) : (wrR bs k rk rs ra rv torn).length ≤ 4 := by
  unfold wrR
  split
  · split
    · exact h4
    · simpa [wrL] using h4
  · simp
theorem wrR_pgs {bs : List Bk} {k rk rs ra rv : Int} {torn : Bool} (hp : ∀ b ∈ bs, b.ps.length ≤ 4) : ∀ b ∈ wrR bs k rk rs ra rv torn, b.ps.length ≤ 4 := by
  unfold wrR
  split
  · split
    · exact hp
    · intro b hb
      rcases List.mem_or_eq_of_mem_set hb with h | rfl
      · exact hp b h
      · simp only [List.length_set]
        by_cases hk : k.toNat < bs.length
        · rw [Ok2.getD_in bs _ hk]; exact hp _ (List.getElem_mem hk)
        · rw [List.getD_eq_getElem?_getD, List.getElem?_eq_none (by omega)]; exact Nat.le_refl 4
  · intro b hb; simp at hb
theorem getD_ne (bs : List Bk) (k j : Nat) (b : Bk) (h : j ≠ k) : (bs.set k b).getD j zBk = bs.getD j zBk := by
  rw [List.getD_eq_getElem?_getD, List.getElem?_set_ne (fun e => h e.symm), List.getD_eq_getElem?_getD]
theorem getD_eq (bs : List Bk) (k : Nat) (b : Bk) (h : k < bs.length) : (bs.set k b).getD k zBk = b := by
  rw [List.getD_eq_getElem?_getD, List.getElem?_set_self h]; rfl
theorem wrL_comm (bs : List Bk) (k m : Nat) (p q : Pg) (h : k ≠ m) : wrL (wrL bs k p) m q = wrL (wrL bs m q) k p := by
  simp only [wrL]
  rw [getD_ne _ k m _ (fun e => h e.symm), getD_ne _ m k _ h, List.set_comm _ _ h]
theorem has_wr {bs : List Bk} (hok : okB bs = true) (k : Nat) (hk : k < 4) (hu : usedN (bs.getD k zBk).ps ≠ 4) (p : Pg) (q : Int) : hasB (wrL bs k p) q = true ↔ (seqP p = some q ∨ hasB bs q = true) := by
  have hl := ok_len hok
  have hkl : k < bs.length := by omega
  have hg := Ok2.getD_in bs k hkl
  rw [hg] at hu
  have h4 : bs[k].ps.length = 4 := (ok_fours hok).at k hkl
  have hle := usedN_le bs[k].ps
  have hcl := used_clean bs[k].ps (by omega)
  have hnone : seqP (bs[k].ps[usedN bs[k].ps]'(by omega)) = none := by
    have : (bs[k].ps[usedN bs[k].ps]'(by omega)).st = 0 := by simpa [clB] using hcl
    unfold seqP
    rw [this]
    rfl
  have h1 := seqsP_set bs[k].ps (usedN bs[k].ps) p (by omega) hnone
  have h2 := seqs_set bs k ⟨bs[k].ps.set (usedN bs[k].ps) p, bs[k].wn⟩ _ hkl h1
  unfold hasB wrL
  rw [hg]
  rw [List.contains_iff_mem, List.contains_iff_mem, h2.mem_iff, List.mem_append, Option.mem_toList]
theorem seq_pgW (torn : Bool) (rk rs ra rv q : Int) : seqP (pgW torn rk rs ra rv) = some q ↔ torn = false ∧ rs = q := by
  cases torn <;> simp [pgW, seqP]
theorem write_yes (a : Option Addr) (cap n : Nat) (K : Nat) (rk rs ra rv : Int) (torn : Bool) (bs : List Bk) (w : World) (hf : FsAt w a bs) (hn : bs.length = n) (h : SpecD.wrB bs (K : Int) rk rs ra rv = true) :
    Calls Try.prog 26 #[.slice a n cap, .int .i64 K, .agg #[.int .i64 rk, .int .i64 rs, .int .i64 ra, .int .i64 rv], .bool torn] w fun e w' => OutN w (wrL bs K (pgW torn rk rs ra rv)) n true e w' := by
  subst hn
  have hl := ok_len (wrR_yes (torn := torn) h).2.2.1
  refine (implWrite_any a cap (K : Int) rk rs ra rv torn bs w hf (by omega)).mono fun e w' hp => ?_
  rw [h] at hp
  exact OutN.of hp (by have := (wrR_yes (torn := torn) h).1; simpa using this) (by simp [wrL])
theorem wrB_iff {bs : List Bk} (hok : okB bs = true) (K : Nat) (hK : K < 4) (rk rs ra rv : Int) (hr : recB rk rs ra rv = true) : SpecD.wrB bs (K : Int) rk rs ra rv = true ↔ usedN (bs.getD K zBk).ps ≠ 4 ∧ hasB bs rs = false := by
  have hin : inB (K : Int) 0 3 = true := by simp [inB]; omega
  unfold SpecD.wrB wrN
  rw [hok, hin, hr, Int.toNat_natCast]
  simp
end Go.Proofs.Ytogioeflbbmppaa.Ws
