/-
  The contract of the program's RecRead: of every text, the ok record whose text this is, and true; else nothing and false.
-/
import Derived.Test.YtbgfdkpfejeliaaDoorRead
import Derived.Stop.LaidErr
namespace Go.Proofs.YtbgfdkpfejeliaaDoor.ReadAny
open Go.ChangeShapes Go.WideShapes Go.ChangeAt Go.RowKit OkA Dec RText SpecText Plain Kit Words RRead
set_option linter.unusedVariables false

/-- What RecRead tells of a text. -/
def Told (t : ByteArray) (k s a v : Int) (ok : Bool) : Prop :=
  (ok = true ∧ recB k s a v = true ∧ t = textB k s a v) ∨ (ok = false ∧ k = 0 ∧ s = 0 ∧ a = 0 ∧ v = 0 ∧ ∀ k s a v, recB k s a v = true → t ≠ textB k s a v)

theorem tell_text {k s a v : Int} (h : recB k s a v = true) : tellR (wordB k) (decS s) (decS a) (decS v) = (k, s, a, v, true) := by
  obtain ⟨hk, hs, _, ha, _, hv, _⟩ := rec_bounds h
  have e : ∀ n : Int, (decS n).data.toList = D n := fun n => rfl
  have kk : kindI (wordB k) = k := by
    rcases hk with rfl | rfl
    · simp [kindI]
    · simp [kindI, w12]
  simp only [tellR, e, atoi_D (show (0 : Int) ≤ s by omega), atoi_D (show (0 : Int) ≤ a by omega), atoi_D hv, kk]
theorem mk_list (x : ByteArray) : (⟨x.data.toList.toArray⟩ : ByteArray) = x := rfl
/-- The four words of a text with three blanks: if it is a record's, they tell that record. -/
theorem tell_of {t : ByteArray} {x b c d : List UInt8} (e : t.data.toList = x ++ 32 :: (b ++ 32 :: (c ++ 32 :: d))) (hx : ∀ z ∈ x, z ≠ 32) (hb : ∀ z ∈ b, z ≠ 32) (hc : ∀ z ∈ c, z ≠ 32)
    {k s a v : Int} (h : recB k s a v = true) (ht : t = textB k s a v) : tellR ⟨x.toArray⟩ ⟨b.toArray⟩ ⟨c.toArray⟩ ⟨d.toArray⟩ = (k, s, a, v, true) := by
  rw [ht, text_list] at e
  unfold textL at e
  obtain ⟨e1, e⟩ := cut_inj _ _ _ _ (word_nb k) hx e
  obtain ⟨e2, e⟩ := cut_inj _ _ _ _ (D_nb s) hb e
  obtain ⟨e3, e4⟩ := cut_inj _ _ _ _ (D_nb a) hc e
  subst e1 e2 e3 e4
  have hw : (⟨(wordL k).toArray⟩ : ByteArray) = wordB k := by unfold wordL wordB; split <;> rfl
  rw [hw]
  exact tell_text h
theorem count_text {t : ByteArray} {k s a v : Int} (ht : t = textB k s a v) : t.data.toList.count 32 = 3 := by
  rw [ht, text_list]; exact text_blanks k s a v

theorem res_read {tmps : Array Value} {w : World} {b : Nat} {k s a v : Int} {ok : Bool} (ht : tmps.getD 2 undef = .pointer (some ⟨b, 0, none⟩)) (hk : tmps.getD 3 undef = .bool ok) (h0 : w.cell? ⟨b, 0, none⟩ = some (.int .i64 k)) (h1 : w.cell? ⟨b, 1, none⟩ = some (.int .i64 s)) (h2 : w.cell? ⟨b, 2, none⟩ = some (.int .i64 a)) (h3 : w.cell? ⟨b, 3, none⟩ = some (.int .i64 v)) :
    (results Tryd.f13 tmps).run Tryd.prog w = .ok (.tuple #[.agg #[.int .i64 k, .int .i64 s, .int .i64 a, .int .i64 v], .bool ok]) w := by
  have ht' : tmps[2]?.getD undef = .pointer (some ⟨b, 0, none⟩) := by simpa using ht
  have hk' : tmps[3]?.getD undef = .bool ok := by simpa using hk
  simp [results, Tryd.results13, go_sem, ht', hk', h0, h1, h2, h3]

theorem read_long (t : ByteArray) (w : World) (h : 20 < t.size) :
    Calls Tryd.prog 13 #[.string t] w fun e w' => e = .returned (.tuple #[.agg #[.int .i64 0, .int .i64 0, .int .i64 0, .int .i64 0], .bool false]) ∧ Below w.heap.size w w' := by
  have hf : (20 : Int) < (t.size : Int) := by omega
  go_enter Tryd.func13, Tryd.ntmps13
  go_wp2_with fail
  exact bodyPost_ret (res_read rfl rfl (by go_cell) (by go_cell) (by go_cell) (by go_cell)) rfl ⟨rfl, by go_grown⟩

set_option maxHeartbeats 1000000 in
theorem read_other (t : ByteArray) (w : World) (hE : Env w) (h : t.size ≤ 20) (hc : t.data.toList.count 32 ≠ 3) :
    Calls Tryd.prog 13 #[.string t] w fun e w' => e = .returned (.tuple #[.agg #[.int .i64 0, .int .i64 0, .int .i64 0, .int .i64 0], .bool false]) ∧ Below w.heap.size w w' := by
  have hf : ¬ (20 : Int) < (t.size : Int) := by omega
  have HE : Hid (Env w) := hE
  clear hE
  have HC : Hid (Lib.countB t ⟨#[32]⟩ + 1 ≠ 4) := by
    have := count_sp t
    show Lib.countB t sp + 1 ≠ 4
    omega
  clear hc
  have b0 : ∀ o, Below w.heap.size w (w.alloc o) := fun o => (Below.refl _ _).alloc (Nat.le_refl _) o
  go_enter Tryd.func13, Tryd.ntmps13
  go_wp2_with fail
  obtain ⟨m, hm⟩ := (HE.out.below (b0 (.cells #[.int .i64 0, .int .i64 0, .int .i64 0, .int .i64 0] 24))).2.2.2
  refine (Tryd.strings_Split t ⟨#[32]⟩ m _ (by omega) hm (by decide)).mono ?_
  rintro e w1 ⟨rfl, rfl⟩
  clear hm
  go_wp2_with fail
  refine (wordsN _ _ _ _ HC.out).mono ?_
  rintro e w2 ⟨rfl, b2⟩
  have bA := ((Below.refl _ _).alloc (Nat.le_refl _) _).trans (b2.mono (by simp))
  have r0 := moved_new bA 0 (.int .i64 0) rfl
  have r1 := moved_new bA 1 (.int .i64 0) rfl
  have r2 := moved_new bA 2 (.int .i64 0) rfl
  have r3 := moved_new bA 3 (.int .i64 0) rfl
  have q0 : w2.frozen? ⟨w.heap.size, 0, none⟩ = false := by rw [bA.frozen (p := ⟨w.heap.size, 0, none⟩) (by simp)]; simp
  have q1 : w2.frozen? ⟨w.heap.size, 1, none⟩ = false := by rw [bA.frozen (p := ⟨w.heap.size, 1, none⟩) (by simp)]; simp
  have q2 : w2.frozen? ⟨w.heap.size, 2, none⟩ = false := by rw [bA.frozen (p := ⟨w.heap.size, 2, none⟩) (by simp)]; simp
  have q3 : w2.frozen? ⟨w.heap.size, 3, none⟩ = false := by rw [bA.frozen (p := ⟨w.heap.size, 3, none⟩) (by simp)]; simp
  have bw : Below w.heap.size w w2 := (b0 _).trans (bA.mono (by simp))
  have hz : w.heap.size < w2.heap.size := World.block_lt_of_cell? w2 ⟨w.heap.size, 0, none⟩ r0
  clear bA b2 HE HC
  go_wp2_with fail
  exact bodyPost_ret (res_read rfl rfl (by go_cell) (by go_cell) (by go_cell) (by go_cell)) rfl ⟨rfl, below_al ((((bw.setCell (Nat.le_refl _) _).setCell (Nat.le_refl _) _).setCell (Nat.le_refl _) _).setCell (Nat.le_refl _) _) _⟩

set_option maxHeartbeats 2000000 in
theorem read_three (t : ByteArray) (w : World) (hE : Env w) (h : t.size ≤ 20) (x b c d : List UInt8) (e : t.data.toList = x ++ 32 :: (b ++ 32 :: (c ++ 32 :: d))) (hx : ∀ z ∈ x, z ≠ 32) (hb : ∀ z ∈ b, z ≠ 32) (hc : ∀ z ∈ c, z ≠ 32) (hd : ∀ z ∈ d, z ≠ 32) :
    Calls Tryd.prog 13 #[.string t] w fun e w' => ∃ (k s a v : Int) (ok : Bool), e = .returned (.tuple #[.agg #[.int .i64 k, .int .i64 s, .int .i64 a, .int .i64 v], .bool ok]) ∧ Told t k s a v ok ∧ Below w.heap.size w w' := by
  have hf : ¬ (20 : Int) < (t.size : Int) := by omega
  have HE : Hid (Env w) := hE
  clear hE
  have hlen : t.size = x.length + (b.length + (c.length + (d.length + 1) + 1) + 1) := by
    have := congrArg List.length e
    rw [Array.length_toList] at this
    simp only [List.length_append, List.length_cons] at this
    exact this
  have HS : Hid (Lib.splitB ⟨#[32]⟩ 0 3 t = [⟨x.toArray⟩, ⟨b.toArray⟩, ⟨c.toArray⟩, ⟨d.toArray⟩]) := words_of e hx hb hc
  have HC : Hid (Lib.countB t ⟨#[32]⟩ = 3) := by
    have := count_sp t
    show Lib.countB t sp = 3
    rw [this, e]
    simp [List.count_append, count_nb _ hx, count_nb _ hb, count_nb _ hc, count_nb _ hd]
  have HTell : Hid (∀ k s a v, recB k s a v = true → t = textB k s a v → tellR ⟨x.toArray⟩ ⟨b.toArray⟩ ⟨c.toArray⟩ ⟨d.toArray⟩ = (k, s, a, v, true)) := fun k s a v h1 h2 => tell_of e hx hb hc h1 h2
  have HN : Hid (t ≠ ⟨#[]⟩) := fun e0 => by rw [e0] at hlen; exact absurd hlen (by show ¬ (0 = _); omega)
  have sb : (⟨b.toArray⟩ : ByteArray).size ≤ 18 := by show b.toArray.size ≤ 18; simp; omega
  have sc : (⟨c.toArray⟩ : ByteArray).size ≤ 18 := by show c.toArray.size ≤ 18; simp; omega
  have sd : (⟨d.toArray⟩ : ByteArray).size ≤ 18 := by show d.toArray.size ≤ 18; simp; omega
  generalize (⟨x.toArray⟩ : ByteArray) = X at *
  generalize (⟨b.toArray⟩ : ByteArray) = B at *
  generalize (⟨c.toArray⟩ : ByteArray) = C at *
  generalize (⟨d.toArray⟩ : ByteArray) = DD at *
  clear hlen e hx hb hc hd
  have b0 : ∀ o, Below w.heap.size w (w.alloc o) := fun o => (Below.refl _ _).alloc (Nat.le_refl _) o
  go_enter Tryd.func13, Tryd.ntmps13
  go_wp2_with fail
  obtain ⟨m, hm⟩ := (HE.out.below (b0 (.cells #[.int .i64 0, .int .i64 0, .int .i64 0, .int .i64 0] 24))).2.2.2
  refine (Tryd.strings_Split t ⟨#[32]⟩ m _ (by omega) hm (by decide)).mono ?_
  rw [HC.out, HS.out]
  rintro e w1 ⟨rfl, rfl⟩
  clear hm
  go_wp2_with fail
  have bE : ∀ o, Below w.heap.size w ((w.alloc (.cells #[.int .i64 0, .int .i64 0, .int .i64 0, .int .i64 0] 24)).alloc o) := fun o => below_al (b0 _) o
  refine (words4 X B C DD _ (w.heap.size + 1) (HE.out.below (bE _)) (by simp) (by simp) (by simp) (by simp) sb sc sd).mono ?_
  rintro e w2 ⟨rfl, b2⟩
  have bA := ((Below.refl _ _).alloc (Nat.le_refl _) _).trans (b2.mono (by simp))
  have r0 := moved_new bA 0 (.int .i64 0) rfl
  have r1 := moved_new bA 1 (.int .i64 0) rfl
  have r2 := moved_new bA 2 (.int .i64 0) rfl
  have r3 := moved_new bA 3 (.int .i64 0) rfl
  have q0 : w2.frozen? ⟨w.heap.size, 0, none⟩ = false := by rw [bA.frozen (p := ⟨w.heap.size, 0, none⟩) (by simp)]; simp
  have q1 : w2.frozen? ⟨w.heap.size, 1, none⟩ = false := by rw [bA.frozen (p := ⟨w.heap.size, 1, none⟩) (by simp)]; simp
  have q2 : w2.frozen? ⟨w.heap.size, 2, none⟩ = false := by rw [bA.frozen (p := ⟨w.heap.size, 2, none⟩) (by simp)]; simp
  have q3 : w2.frozen? ⟨w.heap.size, 3, none⟩ = false := by rw [bA.frozen (p := ⟨w.heap.size, 3, none⟩) (by simp)]; simp
  have bw : Below w.heap.size w w2 := (b0 _).trans (bA.mono (by simp))
  have hz : w.heap.size < w2.heap.size := World.block_lt_of_cell? w2 ⟨w.heap.size, 0, none⟩ r0
  clear bA b2 HC HS
  generalize hR : tellR X B C DD = R at *
  obtain ⟨k, s, a, v, ok⟩ := R
  dsimp only
  cases ok
  · have bX := bw
    clear HE HN hR
    go_wp2_with fail
    refine bodyPost_ret (res_read rfl rfl (by go_cell) (by go_cell) (by go_cell) (by go_cell)) rfl ⟨_, _, _, _, _, rfl, .inr ⟨rfl, rfl, rfl, rfl, rfl, fun k' s' a' v' h1 h2 => ?_⟩, below_al ((((bw.setCell (Nat.le_refl _) _).setCell (Nat.le_refl _) _).setCell (Nat.le_refl _) _).setCell (Nat.le_refl _) _) _⟩
    have := HTell.out k' s' a' v' h1 h2
    exact absurd (congrArg (fun z => z.2.2.2.2) this) (by simp)
  · go_wp2_with fail
    refine (text_tab _ _ _ _ _ ((HE.out.below (below_al bw _)).1)).mono ?_
    rintro e w3 ⟨rfl, b3⟩
    have bN : Below w2.heap.size w2 w3 := ((Below.refl _ _).alloc (Nat.le_refl _) _).trans (b3.mono (by simp))
    have y0 := moved_new b3 0 (.int .i64 k) rfl
    have y1 := moved_new b3 1 (.int .i64 s) rfl
    have y2 := moved_new b3 2 (.int .i64 a) rfl
    have y3 := moved_new b3 3 (.int .i64 v) rfl
    replace r0 := moved r0 bN
    replace r1 := moved r1 bN
    replace r2 := moved r2 bN
    replace r3 := moved r3 bN
    rw [← bN.frozen (p := ⟨w.heap.size, 0, none⟩) hz] at q0
    rw [← bN.frozen (p := ⟨w.heap.size, 1, none⟩) hz] at q1
    rw [← bN.frozen (p := ⟨w.heap.size, 2, none⟩) hz] at q2
    rw [← bN.frozen (p := ⟨w.heap.size, 3, none⟩) hz] at q3
    have bw3 := below_step bw bN
    have hz2 : w.heap.size ≠ w2.heap.size := by omega
    clear b3 bN HE
    by_cases hq : recS k s a v = t
    · have hB : recB k s a v = true := by
        cases hb : recB k s a v
        · rw [recS_no hb] at hq
          exact absurd hq.symm HN.out
        · rfl
      have ht : Hid (t = textB k s a v) := by rw [← hq]; exact recS_ok hB
      rw [hq]
      clear HN HTell hR hq
      have HB : Hid (recB k s a v = true) := hB
      clear hB
      go_wp2_with fail
      exact bodyPost_ret (res_read rfl rfl (by go_cell) (by go_cell) (by go_cell) (by go_cell)) rfl ⟨_, _, _, _, _, rfl, .inl ⟨rfl, HB.out, ht.out⟩, (((bw3.setCell (Nat.le_refl _) _).setCell (Nat.le_refl _) _).setCell (Nat.le_refl _) _).setCell (Nat.le_refl _) _⟩
    · obtain ⟨n1, n1'⟩ := ne_list hq
      have HQ : Hid (¬ recS k s a v = t) := hq
      clear hq HN n1
      generalize hr : recS k s a v = u at *
      have HR : Hid (recS k s a v = u) := hr
      clear hr
      go_wp2_with fail
      refine bodyPost_ret (res_read rfl rfl (by go_cell) (by go_cell) (by go_cell) (by go_cell)) rfl ⟨_, _, _, _, _, rfl, .inr ⟨rfl, rfl, rfl, rfl, rfl, fun k' s' a' v' h1 h2 => ?_⟩, (((bw3.setCell (Nat.le_refl _) _).setCell (Nat.le_refl _) _).setCell (Nat.le_refl _) _).setCell (Nat.le_refl _) _⟩
      have e := HTell.out k' s' a' v' h1 h2
      simp only [Prod.mk.injEq, and_true] at e
      obtain ⟨rfl, rfl, rfl, rfl⟩ := e
      exact HQ.out (by rw [← HR.out, recS_ok h1]; exact h2.symm)

theorem read_any (t : ByteArray) (w : World) (hE : Env w) :
    Calls Tryd.prog 13 #[.string t] w fun e w' => ∃ (k s a v : Int) (ok : Bool), e = .returned (.tuple #[.agg #[.int .i64 k, .int .i64 s, .int .i64 a, .int .i64 v], .bool ok]) ∧ Told t k s a v ok ∧ Below w.heap.size w w' := by
  by_cases h : t.size ≤ 20
  · by_cases hc : t.data.toList.count 32 = 3
    · obtain ⟨x, b, c, d, e, hx, hb, hc', hd⟩ := cut3 _ hc
      exact read_three t w hE h x b c d e hx hb hc' hd
    · refine (read_other t w hE h hc).mono ?_
      rintro e w' ⟨rfl, hb⟩
      exact ⟨_, _, _, _, _, rfl, .inr ⟨rfl, rfl, rfl, rfl, rfl, fun k s a v _ ht => hc (count_text ht)⟩, hb⟩
  · refine (read_long t w (by omega)).mono ?_
    rintro e w' ⟨rfl, hb⟩
    refine ⟨_, _, _, _, _, rfl, .inr ⟨rfl, rfl, rfl, rfl, rfl, fun k s a v hr ht => ?_⟩, hb⟩
    have := text_size20 hr
    rw [← ht] at this
    omega

theorem star : "*" ++ "errors.errorString" = "*errors.errorString" := by decide
theorem rowErr (u : TypeId) (h : Tryd.prog.typeName? 3 u = some "*errors.errorString") : u = 104 :=
  typeName_ptr_named (nm := "errors.errorString") (by rw [star]; kernel_rfl) (by kernel_rfl) (by decide) u (by rw [star]; exact h)
theorem gErrType : (Tryd.prog.globals[1]?).map (·.type) = some 65 := by kernel_rfl
theorem env_laid {W : World} {rest : List (String × DataW Unit)} (hT : Tab W) (h : laidMet Tryd.prog (("strconv.ErrSyntax", Rows.laid_strconv_ErrSyntax) :: rest) W) (hs : W.ShapedOpen Tryd.prog) : Env W := by
  obtain ⟨a, s, hv, _⟩ := laid_sentinel h gErr gErrType Tryd.underlying65 rowErr Tryd.underlying104 Tryd.underlying106 rfl rfl Tryd.underlying9 (by kernel_rfl) (by kernel_rfl)
  obtain ⟨m, hm⟩ := Tryd.laysM146.s1_3 W hs
  have hm' : W.cell? ⟨3, 0, none⟩ = some (.int .i64 m) := hm
  exact ⟨hT, World.block_lt_of_cell? W ⟨3, 0, none⟩ hm', ⟨_, _, hv⟩, m, hm'⟩
end Go.Proofs.YtbgfdkpfejeliaaDoor.ReadAny
