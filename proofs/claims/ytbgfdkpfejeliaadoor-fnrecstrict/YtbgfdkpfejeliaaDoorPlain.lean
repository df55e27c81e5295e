/-
  Plain facts on the texts of records: no figure is a blank, a number is told by its figures, a text has three blanks, and two records that are ok are the same just if their texts are.
-/
import Derived.Test.YtbgfdkpfejeliaaDoorText
namespace Go.Proofs.YtbgfdkpfejeliaaDoor.Plain
open OkA Dec RText
set_option linter.unusedVariables false

theorem dig_toNat {u : Nat} (h : u < 10) : (UInt8.ofNat (48 + u)).toNat = 48 + u := by simp; omega
theorem dig_inj {u v : Nat} (hu : u < 10) (hv : v < 10) (h : UInt8.ofNat (48 + u) = UInt8.ofNat (48 + v)) : u = v := by
  have := congrArg UInt8.toNat h
  rw [dig_toNat hu, dig_toNat hv] at this
  omega

theorem dec_mem (u : Nat) : ∀ c ∈ Lib.decDigits u, 48 ≤ c.toNat ∧ c.toNat ≤ 57 := by
  induction u using Nat.strongRecOn with
  | _ u ih =>
    intro c hc
    rw [Lib.decDigits] at hc
    split at hc
    · rename_i h
      simp only [List.mem_singleton] at hc
      subst hc
      rw [dig_toNat h]; omega
    · rename_i h
      rcases List.mem_append.1 hc with hc | hc
      · exact ih (u / 10) (by omega) c hc
      · simp only [List.mem_singleton] at hc
        subst hc
        rw [dig_toNat (by omega)]; omega
theorem dec_ne (u : Nat) : Lib.decDigits u ≠ [] := by
  rw [Lib.decDigits]
  split <;> simp
theorem dec_inj (u : Nat) : ∀ v, Lib.decDigits u = Lib.decDigits v → u = v := by
  induction u using Nat.strongRecOn with
  | _ u ih =>
    intro v h
    have hu : Lib.decDigits u = if u < 10 then [UInt8.ofNat (48 + u)] else Lib.decDigits (u / 10) ++ [UInt8.ofNat (48 + u % 10)] := by rw [Lib.decDigits]; simp
    have hv : Lib.decDigits v = if v < 10 then [UInt8.ofNat (48 + v)] else Lib.decDigits (v / 10) ++ [UInt8.ofNat (48 + v % 10)] := by rw [Lib.decDigits]; simp
    rw [hu, hv] at h
    by_cases h1 : u < 10 <;> by_cases h2 : v < 10
    · rw [if_pos h1, if_pos h2] at h
      exact dig_inj h1 h2 (List.cons.inj h).1
    · rw [if_pos h1, if_neg h2] at h
      have := congrArg List.length h
      have n0 := List.length_pos_iff.2 (dec_ne (v / 10))
      simp only [List.length_append, List.length_singleton] at this
      omega
    · rw [if_neg h1, if_pos h2] at h
      have := congrArg List.length h
      have n0 := List.length_pos_iff.2 (dec_ne (u / 10))
      simp only [List.length_append, List.length_singleton] at this
      omega
    · rw [if_neg h1, if_neg h2] at h
      have h3 := List.append_inj_left' h rfl
      have h4 := List.append_inj_right' h rfl
      have e := ih (u / 10) (by omega) (v / 10) h3
      have f := dig_inj (Nat.mod_lt u (by omega)) (Nat.mod_lt v (by omega)) (List.cons.inj h4).1
      omega

/-- Two lists that are cut at their first blank. -/
theorem cut_inj : ∀ (x x' y y' : List UInt8), (∀ c ∈ x, c ≠ 32) → (∀ c ∈ x', c ≠ 32) → x ++ 32 :: y = x' ++ 32 :: y' → x = x' ∧ y = y'
  | [], [], y, y', _, _, h => ⟨rfl, (List.cons.inj h).2⟩
  | [], c :: x', y, y', _, h', h => absurd (List.cons.inj h).1.symm (h' c (List.mem_cons_self))
  | c :: x, [], y, y', h', _, h => absurd (List.cons.inj h).1 (h' c (List.mem_cons_self))
  | c :: x, c' :: x', y, y', h1, h2, h => by
    obtain ⟨e, h⟩ := List.cons.inj h
    obtain ⟨e1, e2⟩ := cut_inj x x' y y' (fun d hd => h1 d (List.mem_cons_of_mem _ hd)) (fun d hd => h2 d (List.mem_cons_of_mem _ hd)) h
    exact ⟨by rw [e, e1], e2⟩

def wordL (k : Int) : List UInt8 := if k = 1 then [100, 105, 114, 116, 121] else [99, 108, 101, 97, 110]
def D (n : Int) : List UInt8 := Lib.decDigits n.toNat
def textL (k s a v : Int) : List UInt8 := wordL k ++ 32 :: (D s ++ 32 :: (D a ++ 32 :: D v))
theorem text_list (k s a v : Int) : (textB k s a v).data.toList = textL k s a v := by
  have hw : (wordB k).data.toList = wordL k := by unfold wordB wordL; split <;> rfl
  simp [textB, textL, ByteArray.data_append, decS, D, hw]
theorem text_eq (k s a v : Int) : textB k s a v = ⟨(textL k s a v).toArray⟩ := by
  rw [← text_list]
theorem word_nb (k : Int) : ∀ c ∈ wordL k, c ≠ 32 := by unfold wordL; split <;> decide
theorem D_nb (n : Int) : ∀ c ∈ D n, c ≠ 32 := fun c hc e => by
  have := dec_mem n.toNat c hc
  rw [e] at this
  exact absurd this.1 (by decide)
theorem D_inj {n m : Int} (hn : 0 ≤ n) (hm : 0 ≤ m) (h : D n = D m) : n = m := by
  have := dec_inj _ _ h
  omega
theorem rec_bounds {k s a v : Int} (h : recB k s a v = true) : (k = 1 ∨ k = 2) ∧ 1 ≤ s ∧ s ≤ 600 ∧ 1 ≤ a ∧ a ≤ 6 ∧ 0 ≤ v ∧ v ≤ 9 := by
  simp only [recB, numB, inB, Bool.and_eq_true, decide_eq_true_eq] at h
  omega
theorem textL_inj {k s a v k' s' a' v' : Int} (h : recB k s a v = true) (h' : recB k' s' a' v' = true) (e : textL k s a v = textL k' s' a' v') : k = k' ∧ s = s' ∧ a = a' ∧ v = v' := by
  obtain ⟨hk, hs, _, ha, _, hv, _⟩ := rec_bounds h
  obtain ⟨hk', hs', _, ha', _, hv', _⟩ := rec_bounds h'
  obtain ⟨e1, e⟩ := cut_inj _ _ _ _ (word_nb k) (word_nb k') e
  obtain ⟨e2, e⟩ := cut_inj _ _ _ _ (D_nb s) (D_nb s') e
  obtain ⟨e3, e⟩ := cut_inj _ _ _ _ (D_nb a) (D_nb a') e
  refine ⟨?_, D_inj (by omega) (by omega) e2, D_inj (by omega) (by omega) e3, D_inj hv hv' e⟩
  rcases hk with rfl | rfl <;> rcases hk' with rfl | rfl <;> first | rfl | (exact absurd e1 (by decide))
theorem textB_inj {k s a v k' s' a' v' : Int} (h : recB k s a v = true) (h' : recB k' s' a' v' = true) (e : textB k s a v = textB k' s' a' v') : k = k' ∧ s = s' ∧ a = a' ∧ v = v' :=
  textL_inj h h' (by rw [← text_list, ← text_list, e])
theorem text_ne (k s a v : Int) : textB k s a v ≠ ⟨#[]⟩ := fun e => by
  have := text_list k s a v
  rw [e] at this
  simp [textL] at this
theorem text_size (k : Int) {s a v : Int} (hs : s ≤ 100000) (ha : a ≤ 100000) (hv : v ≤ 100000) : (textB k s a v).size ≤ 100 := by
  have z1 := dec_size hs
  have z2 := dec_size ha
  have z3 := dec_size hv
  have z0 := word_size k
  have h1 : (⟨#[32]⟩ : ByteArray).size = 1 := rfl
  simp only [textB, ByteArray.size_append, z0, h1]
  omega
theorem nd1 {u : Nat} (h : u < 10) : Lib.nDigits u = 1 := Lib.nDigits_small h
theorem nd3 (u : Nat) (h : u < 1000) : Lib.nDigits u ≤ 3 := by
  by_cases h0 : u < 10
  · rw [Lib.nDigits_small h0]; omega
  rw [Lib.nDigits_big h0]
  by_cases h1 : u / 10 < 10
  · rw [Lib.nDigits_small h1]; omega
  rw [Lib.nDigits_big h1, Lib.nDigits_small (by omega)]; omega
theorem dsz (n : Int) : (decS n).size = Lib.nDigits n.toNat := by simp [decS, ByteArray.size, Lib.decDigits_length]
theorem text_size20 {k s a v : Int} (h : recB k s a v = true) : (textB k s a v).size ≤ 20 := by
  obtain ⟨_, hs, hs', ha, ha', hv, hv'⟩ := rec_bounds h
  have z1 := nd3 s.toNat (by omega)
  have z2 := nd1 (u := a.toNat) (by omega)
  have z3 := nd1 (u := v.toNat) (by omega)
  have z0 := word_size k
  have h1 : (⟨#[32]⟩ : ByteArray).size = 1 := rfl
  simp only [textB, ByteArray.size_append, z0, h1, dsz]
  omega
theorem count_nb (l : List UInt8) (h : ∀ c ∈ l, c ≠ 32) : l.count 32 = 0 := List.count_eq_zero.2 fun hc => h 32 hc rfl
theorem text_blanks (k s a v : Int) : (textL k s a v).count 32 = 3 := by
  simp [textL, List.count_append, count_nb _ (word_nb k), count_nb _ (D_nb s), count_nb _ (D_nb a), count_nb _ (D_nb v)]
end Go.Proofs.YtbgfdkpfejeliaaDoor.Plain
