/-
  The contract of the specification's RecRead: of every text, the ok record whose text this is, and true; else nothing and false.
-/
import Derived.Test.YtbgfdkpfejeliaaDoorReadAny
import Derived.Test.YtbgfdkpfejeliaaDoorCut
import Derived.Test.YtbgfdkpfejeliaaDoorNum
namespace Go.Proofs.YtbgfdkpfejeliaaDoor.SpecRead
open Go.ChangeShapes Go.WideShapes Go.ChangeAt Go.RowKit Go.Joins OkA Dec RText SpecText Plain Kit Words RRead Cut Num
set_option linter.unusedVariables false

theorem cutF_app (l : List UInt8) (st : List ByteArray × ByteArray) (h : ∀ c ∈ l, c ≠ 32) : l.foldl stepC st = (st.1, st.2 ++ ⟨l.toArray⟩) := by
  induction l generalizing st with
  | nil =>
    show st = (st.1, st.2 ++ ⟨#[]⟩)
    have : st.2 ++ (⟨#[]⟩ : ByteArray) = st.2 := by apply ByteArray.ext; simp [ByteArray.data_append]
    rw [this]
  | cons c l ih =>
    rw [List.foldl_cons, ih _ (fun d hd => h d (List.mem_cons_of_mem _ hd)), stepC_no _ (h c List.mem_cons_self)]
    simp only [Prod.mk.injEq, true_and]
    apply ByteArray.ext
    simp [ByteArray.data_append]
theorem cutF_blank (l r : List UInt8) (st : List ByteArray × ByteArray) (h : ∀ c ∈ l, c ≠ 32) : (l ++ 32 :: r).foldl stepC st = r.foldl stepC (st.1 ++ [st.2 ++ ⟨l.toArray⟩], ⟨#[]⟩) := by
  rw [List.foldl_append, cutF_app l st h, List.foldl_cons, stepC_yes _ rfl]
theorem nil_app (l : List UInt8) : (⟨#[]⟩ : ByteArray) ++ ⟨l.toArray⟩ = ⟨l.toArray⟩ := by apply ByteArray.ext; simp [ByteArray.data_append]
theorem cutF3 {a b c d : List UInt8} (ha : ∀ z ∈ a, z ≠ 32) (hb : ∀ z ∈ b, z ≠ 32) (hc : ∀ z ∈ c, z ≠ 32) (hd : ∀ z ∈ d, z ≠ 32) :
    cutF (a ++ 32 :: (b ++ 32 :: (c ++ 32 :: d))) = ([⟨a.toArray⟩, ⟨b.toArray⟩, ⟨c.toArray⟩], ⟨d.toArray⟩) := by
  unfold cutF
  rw [cutF_blank a _ _ ha, cutF_blank b _ _ hb, cutF_blank c _ _ hc, cutF_app d _ hd]
  simp [nil_app]
theorem cutF_len (l : List UInt8) : (cutF l).1.length = l.count 32 := by
  suffices h : ∀ (l : List UInt8) (st : List ByteArray × ByteArray), (l.foldl stepC st).1.length = st.1.length + l.count 32 by
    have := h l ([], ⟨#[]⟩)
    simpa [cutF] using this
  intro l
  induction l with
  | nil => intro st; simp
  | cons c l ih =>
    intro st
    rw [List.foldl_cons, ih]
    by_cases hc : c = 32
    · subst hc
      rw [stepC_yes _ rfl, List.count_cons_self]
      simp; omega
    · rw [stepC_no _ hc, List.count_cons_of_ne (fun e => hc e)]

def kindS (x : ByteArray) : Int := if x = wordB 2 then 2 else 1
theorem w21 : ¬ wordB 1 = wordB 2 := fun e => w12 e.symm
theorem num_dec {n : Int} (h0 : 0 ≤ n) (h1 : n ≤ 999) : numI (decS n) = n := by
  have z := dsz n
  have z3 := nd3 n.toNat (by omega)
  have z1 := Lib.nDigits_pos n.toNat
  have e : (decS n).data.toList = Lib.decDigits n.toNat := rfl
  unfold numI
  rw [if_pos (by omega), e, decFrom_dec]
  show ((n.toNat : Nat) : Int) = n
  omega
theorem tellS {t : ByteArray} {x b c d : List UInt8} (e : t.data.toList = x ++ 32 :: (b ++ 32 :: (c ++ 32 :: d))) (hx : ∀ z ∈ x, z ≠ 32) (hb : ∀ z ∈ b, z ≠ 32) (hc : ∀ z ∈ c, z ≠ 32)
    {k s a v : Int} (h : recB k s a v = true) (ht : t = textB k s a v) : kindS ⟨x.toArray⟩ = k ∧ numI ⟨b.toArray⟩ = s ∧ numI ⟨c.toArray⟩ = a ∧ numI ⟨d.toArray⟩ = v := by
  rw [ht, text_list] at e
  unfold textL at e
  obtain ⟨e1, e⟩ := cut_inj _ _ _ _ (word_nb k) hx e
  obtain ⟨e2, e⟩ := cut_inj _ _ _ _ (D_nb s) hb e
  obtain ⟨e3, e4⟩ := cut_inj _ _ _ _ (D_nb a) hc e
  subst e1 e2 e3 e4
  obtain ⟨hk, hs, hs', ha, ha', hv, hv'⟩ := rec_bounds h
  have hw : (⟨(wordL k).toArray⟩ : ByteArray) = wordB k := by unfold wordL wordB; split <;> rfl
  rw [hw]
  refine ⟨?_, num_dec (by omega) (by omega), num_dec (by omega) (by omega), num_dec (by omega) (by omega)⟩
  rcases hk with rfl | rfl
  · simp [kindS, w21]
  · simp [kindS]

theorem res_read {tmps : Array Value} {w : World} {b : Nat} {k s a v : Int} {ok : Bool} (ht : tmps.getD 2 undef = .pointer (some ⟨b, 0, none⟩)) (hk : tmps.getD 3 undef = .bool ok) (h0 : w.cell? ⟨b, 0, none⟩ = some (.int .i64 k)) (h1 : w.cell? ⟨b, 1, none⟩ = some (.int .i64 s)) (h2 : w.cell? ⟨b, 2, none⟩ = some (.int .i64 a)) (h3 : w.cell? ⟨b, 3, none⟩ = some (.int .i64 v)) :
    (results Tryd.f16 tmps).run Tryd.prog w = .ok (.tuple #[.agg #[.int .i64 k, .int .i64 s, .int .i64 a, .int .i64 v], .bool ok]) w := by
  have ht' : tmps[2]?.getD undef = .pointer (some ⟨b, 0, none⟩) := by simpa using ht
  have hk' : tmps[3]?.getD undef = .bool ok := by simpa using hk
  simp [results, Tryd.results16, go_sem, ht', hk', h0, h1, h2, h3]

theorem read_long (t : ByteArray) (w : World) (h : 20 < t.size) :
    Calls Tryd.prog 16 #[.string t] w fun e w' => e = .returned (.tuple #[.agg #[.int .i64 0, .int .i64 0, .int .i64 0, .int .i64 0], .bool false]) ∧ Below w.heap.size w w' := by
  have hf : (20 : Int) < (t.size : Int) := by omega
  go_enter Tryd.func16, Tryd.ntmps16
  go_wp2_with fail
  exact bodyPost_ret (res_read rfl rfl (by go_cell) (by go_cell) (by go_cell) (by go_cell)) rfl ⟨rfl, by go_grown⟩

set_option maxHeartbeats 1000000 in
theorem read_other (t : ByteArray) (w : World) (h : t.size ≤ 20) (hc : t.data.toList.count 32 ≠ 3) :
    Calls Tryd.prog 16 #[.string t] w fun e w' => e = .returned (.tuple #[.agg #[.int .i64 0, .int .i64 0, .int .i64 0, .int .i64 0], .bool false]) ∧ Below w.heap.size w w' := by
  have hf : ¬ (20 : Int) < (t.size : Int) := by omega
  have b0 : ∀ o, Below w.heap.size w (w.alloc o) := fun o => (Below.refl _ _).alloc (Nat.le_refl _) o
  go_enter Tryd.func16, Tryd.ntmps16
  go_wp2_with fail
  refine (cut_any t _ h).mono ?_
  rintro e w1 ⟨val, rfl, own, b1⟩
  obtain ⟨g, cap, rfl⟩ := ownsRow_form own (by omega)
  have hn : (((cutF t.data.toList).1.length : Int) + 1 != 4) = true := by
    have := cutF_len t.data.toList
    rw [bne_iff_ne]; omega
  have r0 := moved_new b1 0 (.int .i64 0) rfl
  have r1 := moved_new b1 1 (.int .i64 0) rfl
  have r2 := moved_new b1 2 (.int .i64 0) rfl
  have r3 := moved_new b1 3 (.int .i64 0) rfl
  have q0 : w1.frozen? ⟨w.heap.size, 0, none⟩ = false := by rw [b1.frozen (p := ⟨w.heap.size, 0, none⟩) (by simp)]; simp
  have q1 : w1.frozen? ⟨w.heap.size, 1, none⟩ = false := by rw [b1.frozen (p := ⟨w.heap.size, 1, none⟩) (by simp)]; simp
  have q2 : w1.frozen? ⟨w.heap.size, 2, none⟩ = false := by rw [b1.frozen (p := ⟨w.heap.size, 2, none⟩) (by simp)]; simp
  have q3 : w1.frozen? ⟨w.heap.size, 3, none⟩ = false := by rw [b1.frozen (p := ⟨w.heap.size, 3, none⟩) (by simp)]; simp
  have bw := below_step (b0 _) b1
  clear own b1 hc
  generalize (cutF t.data.toList).1.length = n at *
  go_wp2_with fail
  exact bodyPost_ret (res_read rfl rfl (by go_cell) (by go_cell) (by go_cell) (by go_cell)) rfl ⟨rfl, (((bw.setCell (Nat.le_refl _) _).setCell (Nat.le_refl _) _).setCell (Nat.le_refl _) _).setCell (Nat.le_refl _) _⟩

set_option maxHeartbeats 2000000 in
theorem read_three (t : ByteArray) (w : World) (h : t.size ≤ 20) (x b c d : List UInt8) (e : t.data.toList = x ++ 32 :: (b ++ 32 :: (c ++ 32 :: d))) (hx : ∀ z ∈ x, z ≠ 32) (hb : ∀ z ∈ b, z ≠ 32) (hc : ∀ z ∈ c, z ≠ 32) (hd : ∀ z ∈ d, z ≠ 32) :
    Calls Tryd.prog 16 #[.string t] w fun e w' => ∃ (k s a v : Int) (ok : Bool), e = .returned (.tuple #[.agg #[.int .i64 k, .int .i64 s, .int .i64 a, .int .i64 v], .bool ok]) ∧ ReadAny.Told t k s a v ok ∧ Below w.heap.size w w' := by
  have hf : ¬ (20 : Int) < (t.size : Int) := by omega
  have hlen : t.size = x.length + (b.length + (c.length + (d.length + 1) + 1) + 1) := by
    have := congrArg List.length e
    rw [Array.length_toList] at this
    simp only [List.length_append, List.length_cons] at this
    exact this
  have HTell : Hid (∀ k s a v, recB k s a v = true → t = textB k s a v → kindS ⟨x.toArray⟩ = k ∧ numI ⟨b.toArray⟩ = s ∧ numI ⟨c.toArray⟩ = a ∧ numI ⟨d.toArray⟩ = v) := fun k s a v h1 h2 => tellS e hx hb hc h1 h2
  have HN : Hid (t ≠ ⟨#[]⟩) := fun e0 => by rw [e0] at hlen; exact absurd hlen (by show ¬ (0 = _); omega)
  have HCF : Hid (cutF t.data.toList = ([⟨x.toArray⟩, ⟨b.toArray⟩, ⟨c.toArray⟩], ⟨d.toArray⟩)) := by
    show cutF t.data.toList = _
    rw [e]; exact cutF3 hx hb hc hd
  have sb : (⟨b.toArray⟩ : ByteArray).size ≤ 100 := by show b.toArray.size ≤ 100; simp; omega
  have sc : (⟨c.toArray⟩ : ByteArray).size ≤ 100 := by show c.toArray.size ≤ 100; simp; omega
  have sd : (⟨d.toArray⟩ : ByteArray).size ≤ 100 := by show d.toArray.size ≤ 100; simp; omega
  generalize (⟨x.toArray⟩ : ByteArray) = X at *
  generalize (⟨b.toArray⟩ : ByteArray) = B at *
  generalize (⟨c.toArray⟩ : ByteArray) = C at *
  generalize (⟨d.toArray⟩ : ByteArray) = DD at *
  clear hlen e hx hb hc hd
  have b0 : ∀ o, Below w.heap.size w (w.alloc o) := fun o => (Below.refl _ _).alloc (Nat.le_refl _) o
  go_enter Tryd.func16, Tryd.ntmps16
  go_wp2_with fail
  refine (cut_any t _ h).mono ?_
  rintro e w1 ⟨val, rfl, own, b1⟩
  rw [HCF.out] at own
  obtain ⟨g, cap, rfl⟩ := ownsRow_form own (by simp)
  have c0 : w1.cell? ⟨g, 0, none⟩ = some (.string X) := by rw [own.cellAt 0 (by simp)]; rfl
  have c1 : w1.cell? ⟨g, 1, none⟩ = some (.string B) := by rw [own.cellAt 1 (by simp)]; rfl
  have c2 : w1.cell? ⟨g, 2, none⟩ = some (.string C) := by rw [own.cellAt 2 (by simp)]; rfl
  have c3 : w1.cell? ⟨g, 3, none⟩ = some (.string DD) := by rw [own.cellAt 3 (by simp)]; rfl
  have hg : g < w1.heap.size := World.block_lt_of_cell? w1 ⟨g, 0, none⟩ c0
  have r0 := moved_new b1 0 (.int .i64 0) rfl
  have r1 := moved_new b1 1 (.int .i64 0) rfl
  have r2 := moved_new b1 2 (.int .i64 0) rfl
  have r3 := moved_new b1 3 (.int .i64 0) rfl
  have q0 : w1.frozen? ⟨w.heap.size, 0, none⟩ = false := by rw [b1.frozen (p := ⟨w.heap.size, 0, none⟩) (by simp)]; simp
  have q1 : w1.frozen? ⟨w.heap.size, 1, none⟩ = false := by rw [b1.frozen (p := ⟨w.heap.size, 1, none⟩) (by simp)]; simp
  have q2 : w1.frozen? ⟨w.heap.size, 2, none⟩ = false := by rw [b1.frozen (p := ⟨w.heap.size, 2, none⟩) (by simp)]; simp
  have q3 : w1.frozen? ⟨w.heap.size, 3, none⟩ = false := by rw [b1.frozen (p := ⟨w.heap.size, 3, none⟩) (by simp)]; simp
  have hz : w.heap.size < w1.heap.size := World.block_lt_of_cell? w1 ⟨w.heap.size, 0, none⟩ r0
  have bw := below_step (b0 _) b1
  have hne : g ≠ w.heap.size := by have := (own.lt g rfl).1; simp at this; omega
  clear own b1 HCF
  simp only [List.length_cons, List.length_nil]
  go_wp2_with fail
  go_region_held3 (fun w' => w'.cell? ⟨g, 0, none⟩ = some (.string X) ∧ w'.cell? ⟨g, 1, none⟩ = some (.string B) ∧ w'.cell? ⟨g, 2, none⟩ = some (.string C) ∧ w'.cell? ⟨g, 3, none⟩ = some (.string DD)) (go_keep)
    (first | (go_at_call 32; refine (num_any _ _ (by assumption)).mono ?_; rintro e w' ⟨rfl, rfl⟩))
  all_goals
    by_cases hX : X = wordB 2
    · have f : (X.toList == [99, 108, 101, 97, 110]) = true := by rw [hX, list_w2]; rfl
      have hk : Hid (kindS X = 2) := by show kindS X = 2; simp [kindS, hX]
      clear hX
      go_wp2_with fail
      refine (spec_any _ _ _ _ _).mono ?_
      rintro e w3 ⟨rfl, b3⟩
      have bN : Below w1.heap.size w1 w3 := (below_drewN ((Below.refl _ _).alloc (Nat.le_refl _) _) 1).trans (b3.mono (by simp))
      have y0 := moved_newd b3 0 (.int .i64 2) rfl
      have y1 := moved_newd b3 1 (.int .i64 (numI B)) rfl
      have y2 := moved_newd b3 2 (.int .i64 (numI C)) rfl
      have y3 := moved_newd b3 3 (.int .i64 (numI DD)) rfl
      replace r0 := moved r0 bN
      replace r1 := moved r1 bN
      replace r2 := moved r2 bN
      replace r3 := moved r3 bN
      rw [← bN.frozen (p := ⟨w.heap.size, 0, none⟩) hz] at q0
      rw [← bN.frozen (p := ⟨w.heap.size, 1, none⟩) hz] at q1
      rw [← bN.frozen (p := ⟨w.heap.size, 2, none⟩) hz] at q2
      rw [← bN.frozen (p := ⟨w.heap.size, 3, none⟩) hz] at q3
      have bw3 := below_step bw bN
      have hz2 : w.heap.size ≠ w1.heap.size := by omega
      clear b3 bN f c0 c1 c2 c3
      generalize numI B = s at *
      generalize numI C = a at *
      generalize numI DD = v at *
      by_cases hq : recS 2 s a v = t
      · have hB : recB 2 s a v = true := by
          cases hb : recB 2 s a v
          · rw [recS_no hb] at hq
            exact absurd hq.symm HN.out
          · rfl
        have ht : Hid (t = textB 2 s a v) := by rw [← hq]; exact recS_ok hB
        obtain ⟨m1, m1'⟩ := ne_nil HN.out
        rw [hq]
        clear HN HTell hq
        have HB : Hid (recB 2 s a v = true) := hB
        clear hB
        go_wp2_with fail
        exact bodyPost_ret (res_read rfl rfl (by go_cell) (by go_cell) (by go_cell) (by go_cell)) rfl ⟨_, _, _, _, _, rfl, .inl ⟨rfl, HB.out, ht.out⟩, (((bw3.setCell (Nat.le_refl _) _).setCell (Nat.le_refl _) _).setCell (Nat.le_refl _) _).setCell (Nat.le_refl _) _⟩
      · obtain ⟨n1, n1'⟩ := ne_list hq
        have HQ : Hid (¬ recS 2 s a v = t) := hq
        clear hq HN n1
        generalize hr : recS 2 s a v = u at *
        have HR : Hid (recS 2 s a v = u) := hr
        clear hr
        go_wp2_with fail
        refine bodyPost_ret (res_read rfl rfl (by go_cell) (by go_cell) (by go_cell) (by go_cell)) rfl ⟨_, _, _, _, _, rfl, .inr ⟨rfl, rfl, rfl, rfl, rfl, fun k' s' a' v' h1 h2 => ?_⟩, (((bw3.setCell (Nat.le_refl _) _).setCell (Nat.le_refl _) _).setCell (Nat.le_refl _) _).setCell (Nat.le_refl _) _⟩
        obtain ⟨e0, rfl, rfl, rfl⟩ := HTell.out k' s' a' v' h1 h2
        rw [hk.out] at e0
        subst e0
        exact HQ.out (by rw [← HR.out, recS_ok h1]; exact h2.symm)
    · have f : (X.toList == [99, 108, 101, 97, 110]) = false := by
        have := (ne_list hX).2
        rw [list_w2] at this
        exact this
      have hk : Hid (kindS X = 1) := by show kindS X = 1; simp [kindS, hX]
      clear hX
      go_wp2_with fail
      refine (spec_any _ _ _ _ _).mono ?_
      rintro e w3 ⟨rfl, b3⟩
      have bN : Below w1.heap.size w1 w3 := (below_drewN ((Below.refl _ _).alloc (Nat.le_refl _) _) 1).trans (b3.mono (by simp))
      have y0 := moved_newd b3 0 (.int .i64 1) rfl
      have y1 := moved_newd b3 1 (.int .i64 (numI B)) rfl
      have y2 := moved_newd b3 2 (.int .i64 (numI C)) rfl
      have y3 := moved_newd b3 3 (.int .i64 (numI DD)) rfl
      replace r0 := moved r0 bN
      replace r1 := moved r1 bN
      replace r2 := moved r2 bN
      replace r3 := moved r3 bN
      rw [← bN.frozen (p := ⟨w.heap.size, 0, none⟩) hz] at q0
      rw [← bN.frozen (p := ⟨w.heap.size, 1, none⟩) hz] at q1
      rw [← bN.frozen (p := ⟨w.heap.size, 2, none⟩) hz] at q2
      rw [← bN.frozen (p := ⟨w.heap.size, 3, none⟩) hz] at q3
      have bw3 := below_step bw bN
      have hz2 : w.heap.size ≠ w1.heap.size := by omega
      clear b3 bN f c0 c1 c2 c3
      generalize numI B = s at *
      generalize numI C = a at *
      generalize numI DD = v at *
      by_cases hq : recS 1 s a v = t
      · have hB : recB 1 s a v = true := by
          cases hb : recB 1 s a v
          · rw [recS_no hb] at hq
            exact absurd hq.symm HN.out
          · rfl
        have ht : Hid (t = textB 1 s a v) := by rw [← hq]; exact recS_ok hB
        obtain ⟨m1, m1'⟩ := ne_nil HN.out
        rw [hq]
        clear HN HTell hq
        have HB : Hid (recB 1 s a v = true) := hB
        clear hB
        go_wp2_with fail
        exact bodyPost_ret (res_read rfl rfl (by go_cell) (by go_cell) (by go_cell) (by go_cell)) rfl ⟨_, _, _, _, _, rfl, .inl ⟨rfl, HB.out, ht.out⟩, (((bw3.setCell (Nat.le_refl _) _).setCell (Nat.le_refl _) _).setCell (Nat.le_refl _) _).setCell (Nat.le_refl _) _⟩
      · obtain ⟨n1, n1'⟩ := ne_list hq
        have HQ : Hid (¬ recS 1 s a v = t) := hq
        clear hq HN n1
        generalize hr : recS 1 s a v = u at *
        have HR : Hid (recS 1 s a v = u) := hr
        clear hr
        go_wp2_with fail
        refine bodyPost_ret (res_read rfl rfl (by go_cell) (by go_cell) (by go_cell) (by go_cell)) rfl ⟨_, _, _, _, _, rfl, .inr ⟨rfl, rfl, rfl, rfl, rfl, fun k' s' a' v' h1 h2 => ?_⟩, (((bw3.setCell (Nat.le_refl _) _).setCell (Nat.le_refl _) _).setCell (Nat.le_refl _) _).setCell (Nat.le_refl _) _⟩
        obtain ⟨e0, rfl, rfl, rfl⟩ := HTell.out k' s' a' v' h1 h2
        rw [hk.out] at e0
        subst e0
        exact HQ.out (by rw [← HR.out, recS_ok h1]; exact h2.symm)

theorem spec_read (t : ByteArray) (w : World) :
    Calls Tryd.prog 16 #[.string t] w fun e w' => ∃ (k s a v : Int) (ok : Bool), e = .returned (.tuple #[.agg #[.int .i64 k, .int .i64 s, .int .i64 a, .int .i64 v], .bool ok]) ∧ ReadAny.Told t k s a v ok ∧ Below w.heap.size w w' := by
  by_cases h : t.size ≤ 20
  · by_cases hc : t.data.toList.count 32 = 3
    · obtain ⟨x, b, c, d, e, hx, hb, hc', hd⟩ := cut3 _ hc
      exact read_three t w h x b c d e hx hb hc' hd
    · refine (read_other t w h hc).mono ?_
      rintro e w' ⟨rfl, hb⟩
      exact ⟨_, _, _, _, _, rfl, .inr ⟨rfl, rfl, rfl, rfl, rfl, fun k s a v _ ht => hc (ReadAny.count_text ht)⟩, hb⟩
  · refine (read_long t w (by omega)).mono ?_
    rintro e w' ⟨rfl, hb⟩
    refine ⟨_, _, _, _, _, rfl, .inr ⟨rfl, rfl, rfl, rfl, rfl, fun k s a v hr ht => ?_⟩, hb⟩
    have := text_size20 hr
    rw [← ht] at this
    omega

/-- Two tellings of one text are the same. -/
theorem told_one {t : ByteArray} {k s a v k' s' a' v' : Int} {ok ok' : Bool} (h : ReadAny.Told t k s a v ok) (h' : ReadAny.Told t k' s' a' v' ok') : k = k' ∧ s = s' ∧ a = a' ∧ v = v' ∧ ok = ok' := by
  rcases h with ⟨rfl, h2, h3⟩ | ⟨rfl, rfl, rfl, rfl, rfl, h⟩ <;> rcases h' with ⟨rfl, g2, g3⟩ | ⟨rfl, rfl, rfl, rfl, rfl, g⟩
  · obtain ⟨e1, e2, e3, e4⟩ := textB_inj h2 g2 (h3.symm.trans g3)
    exact ⟨e1, e2, e3, e4, rfl⟩
  · exact absurd h3 (g _ _ _ _ h2)
  · exact absurd g3 (h _ _ _ _ g2)
  · exact ⟨rfl, rfl, rfl, rfl, rfl⟩
end Go.Proofs.YtbgfdkpfejeliaaDoor.SpecRead
