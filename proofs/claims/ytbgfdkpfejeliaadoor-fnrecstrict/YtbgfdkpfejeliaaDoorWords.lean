/-
  Plain facts on a text that is cut at its blanks: what the four words of a record's text are, and that a number is read back from its figures.
-/
import Derived.Test.YtbgfdkpfejeliaaDoorPlain
import Derived.Lib.SplitLaws
import Derived.Lib.IndexBytes
namespace Go.Proofs.YtbgfdkpfejeliaaDoor.Words
open OkA Dec RText Plain
set_option linter.unusedVariables false

theorem indexByte_app : ∀ (x y : List UInt8), (∀ c ∈ x, c ≠ 32) → Lib.indexByte (x ++ 32 :: y) 32 = x.length
  | [], y, _ => by simp [Lib.indexByte]
  | c :: x, y, h => by
    have ih := indexByte_app x y (fun d hd => h d (List.mem_cons_of_mem _ hd))
    have hc : (c == 32) = false := by simpa using h c List.mem_cons_self
    have hn : ((x.length : Int) == -1) = false := by simp
    simp only [List.cons_append, Lib.indexByte, hc, ih, hn]
    simp
theorem split_cons (x y : List UInt8) (h : ∀ c ∈ x, c ≠ 32) (n : Nat) : Lib.splitK [32] 0 (n + 1) (x ++ 32 :: y) = x :: Lib.splitK [32] 0 n y := by
  have hi : Lib.index (x ++ 32 :: y) [32] = x.length := by rw [Lib.index_one]; exact indexByte_app x y h
  have hn : ((x.length : Int) == -1) = false := by simp
  rw [Lib.splitK, hi, if_neg (by simp [hn])]
  simp
theorem split3 (a b c d : List UInt8) (ha : ∀ z ∈ a, z ≠ 32) (hb : ∀ z ∈ b, z ≠ 32) (hc : ∀ z ∈ c, z ≠ 32) : Lib.splitK [32] 0 3 (a ++ 32 :: (b ++ 32 :: (c ++ 32 :: d))) = [a, b, c, d] := by
  rw [split_cons a _ ha, split_cons b _ hb, split_cons c _ hc]
  rfl

theorem cut1 : ∀ (l : List UInt8) (k : Nat), l.count 32 = k + 1 → ∃ x y, l = x ++ 32 :: y ∧ (∀ c ∈ x, c ≠ 32) ∧ y.count 32 = k
  | [], k, h => by simp at h
  | c :: l, k, h => by
    by_cases hc : c = 32
    · subst hc
      rw [List.count_cons_self] at h
      exact ⟨[], l, rfl, by simp, by omega⟩
    · rw [List.count_cons_of_ne (fun e => hc e)] at h
      obtain ⟨x, y, e, hx, hy⟩ := cut1 l k h
      refine ⟨c :: x, y, by rw [e]; rfl, fun d hd => ?_, hy⟩
      rcases List.mem_cons.1 hd with rfl | hd
      · exact hc
      · exact hx d hd
theorem cut3 (l : List UInt8) (h : l.count 32 = 3) : ∃ a b c d : List UInt8, l = a ++ 32 :: (b ++ 32 :: (c ++ 32 :: d)) ∧ (∀ z ∈ a, z ≠ 32) ∧ (∀ z ∈ b, z ≠ 32) ∧ (∀ z ∈ c, z ≠ 32) ∧ ∀ z ∈ d, z ≠ 32 := by
  obtain ⟨a, l1, rfl, ha, h1⟩ := cut1 l 2 h
  obtain ⟨b, l2, rfl, hb, h2⟩ := cut1 l1 1 h1
  obtain ⟨c, d, rfl, hc, h3⟩ := cut1 l2 0 h2
  exact ⟨a, b, c, d, rfl, ha, hb, hc, fun z hz e => by subst e; exact absurd hz (List.count_eq_zero.1 h3)⟩

def sp : ByteArray := ⟨#[32]⟩
theorem bytes_of {x : ByteArray} {l : List UInt8} (h : x.data.toList = l) : x = ⟨l.toArray⟩ := by
  cases x with | mk d => subst h; rfl
theorem words_of {t : ByteArray} {a b c d : List UInt8} (e : t.data.toList = a ++ 32 :: (b ++ 32 :: (c ++ 32 :: d))) (ha : ∀ z ∈ a, z ≠ 32) (hb : ∀ z ∈ b, z ≠ 32) (hc : ∀ z ∈ c, z ≠ 32) :
    Lib.splitB sp 0 3 t = [⟨a.toArray⟩, ⟨b.toArray⟩, ⟨c.toArray⟩, ⟨d.toArray⟩] := by
  have h := Lib.splitB_data sp 0 3 t
  rw [e, show sp.data.toList = [32] from rfl, split3 a b c d ha hb hc] at h
  match hl : Lib.splitB sp 0 3 t, h with
  | [x0, x1, x2, x3], h =>
    simp only [List.map_cons, List.map_nil, List.cons.injEq, and_true] at h
    rw [bytes_of h.1, bytes_of h.2.1, bytes_of h.2.2.1, bytes_of h.2.2.2]
theorem count_sp (t : ByteArray) : Lib.countB t sp = t.data.toList.count 32 := by
  show Lib.count t.data.toList [32] = _
  rw [Lib.count_one]

theorem decFrom_app : ∀ (l r : List UInt8) (acc : Nat), Lib.decFrom acc (l ++ r) = (Lib.decFrom acc l).bind fun n => Lib.decFrom n r
  | [], r, acc => rfl
  | b :: l, r, acc => by
    simp only [List.cons_append, Lib.decFrom]
    cases Lib.digitVal b with
    | none => rfl
    | some d => exact decFrom_app l r _
theorem digitVal_ofNat {u : Nat} (h : u < 10) : Lib.digitVal (UInt8.ofNat (48 + u)) = some u := by
  unfold Lib.digitVal
  rw [dig_toNat h, if_pos (by omega)]
  congr 1
  omega
theorem decFrom_dec (u : Nat) : Lib.decFrom 0 (Lib.decDigits u) = some u := by
  induction u using Nat.strongRecOn with
  | _ u ih =>
    rw [Lib.decDigits]
    split
    · rename_i h
      simp only [Lib.decFrom, digitVal_ofNat h, Nat.zero_mul, Nat.zero_add]
    · rename_i h
      rw [decFrom_app, ih (u / 10) (by omega)]
      simp only [Option.bind_some, Lib.decFrom, digitVal_ofNat (Nat.mod_lt u (by omega : 0 < 10))]
      congr 1
      omega
theorem atoi_D {n : Int} (h : 0 ≤ n) : Lib.atoi (D n) = some n := by
  have h1 := decFrom_dec n.toNat
  have h2 := dec_mem n.toNat
  have h3 := dec_ne n.toNat
  unfold D
  match hd : Lib.decDigits n.toNat with
  | [] => exact absurd hd h3
  | c :: l =>
    rw [hd] at h1 h2
    have hc := h2 c List.mem_cons_self
    have c1 : (c == 45) = false := by
      rw [beq_eq_false_iff_ne]; rintro rfl; exact absurd hc.1 (by decide)
    have c2 : (c == 43) = false := by
      rw [beq_eq_false_iff_ne]; rintro rfl; exact absurd hc.1 (by decide)
    simp only [Lib.atoi, c1, c2, Lib.decNat, List.isEmpty_cons, h1]
    simp
    omega
end Go.Proofs.YtbgfdkpfejeliaaDoor.Words
