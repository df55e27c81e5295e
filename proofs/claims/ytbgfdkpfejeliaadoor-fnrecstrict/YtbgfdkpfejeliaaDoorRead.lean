/-
  The contract of the program's RecRead: of every text, the ok record whose text this is, and true; else nothing and false.
-/
import Derived.Test.YtbgfdkpfejeliaaDoorKit
import Derived.Test.YtbgfdkpfejeliaaDoorWords
namespace Go.Proofs.YtbgfdkpfejeliaaDoor.RRead
open Go.ChangeShapes Go.WideShapes Go.ChangeAt Go.RowKit OkA Dec RText SpecText Plain Kit Words
set_option linter.unusedVariables false

/-- What the library's numerals and its cutting read of the package-level variables. -/
def Env (W : World) : Prop := Tab W ∧ 3 < W.heap.size ∧ (∃ tp p, W.var? Tryd.prog "strconv.ErrSyntax" = some #[.iface tp p]) ∧ ∃ m, W.cell? ⟨3, 0, none⟩ = some (.int .i64 m)
theorem gErr : Tryd.prog.globalNamed "strconv.ErrSyntax" = some 1 := by kernel_rfl
theorem Env.below {W w : World} (h : Env W) (hb : Below W.heap.size W w) : Env w := by
  obtain ⟨h1, h2, ⟨tp, p, h3⟩, m, h4⟩ := h
  exact ⟨h1.below hb, Nat.lt_of_lt_of_le h2 hb.size, ⟨tp, p, var?_below hb gErr (by omega) h3⟩, m, moved h4 hb⟩

theorem atoi_yes (t : ByteArray) (n : Int) (w : World) (hl : t.size ≤ 18) (h : Lib.atoi t.data.toList = some n) :
    Calls Tryd.prog 36 #[.string t] w fun e w' => e = .returned (.tuple #[.int .i64 n, .nilIface]) ∧ Below w.heap.size w w' := by
  refine (Tryd.strconv_Atoi t n hl h w).mono ?_
  rintro e w' ⟨rfl, u, rfl⟩
  exact ⟨rfl, Lib.bytesWorld_below _ _ _⟩
theorem atoi_no (t : ByteArray) (w : World) (hl : t.size ≤ 18) (h : Lib.atoi t.data.toList = none) (hE : Env w) :
    Calls Tryd.prog 36 #[.string t] w fun e w' => ∃ N, e = .returned (.tuple #[.int .i64 0, .iface 82 (.pointer (some ⟨N, 0, none⟩))]) ∧ Below w.heap.size w w' := by
  obtain ⟨tp, p, hv⟩ := hE.2.2.1
  refine (Tryd.strconv_Atoi_err_var t hl h tp p w hv).mono ?_
  rintro e w' ⟨N, rfl, _, _, hb⟩
  exact ⟨N, rfl, hb⟩

def kindI (t : ByteArray) : Int := if t = wordB 1 then 1 else if t = wordB 2 then 2 else 0
theorem list_w1 : (wordB 1).toList = [100, 105, 114, 116, 121] := by rw [ByteArray.toList_eq]; rfl
theorem list_w2 : (wordB 2).toList = [99, 108, 101, 97, 110] := by rw [ByteArray.toList_eq]; rfl
theorem w12 : ¬ wordB 2 = wordB 1 := fun e => by
  have := congrArg ByteArray.toList e
  rw [list_w1, list_w2] at this
  exact absurd this (by decide)
theorem kind_any (t : ByteArray) (w : World) : Calls Tryd.prog 37 #[.string t] w fun e w' => e = .returned (.int .i64 (kindI t)) ∧ w' = w := by
  by_cases h1 : t = wordB 1
  · subst h1
    have f1 : ((wordB 1).toList == [100, 105, 114, 116, 121]) = true := by rw [list_w1]; rfl
    rw [show kindI (wordB 1) = 1 by simp [kindI]]
    go_enter Tryd.func37, Tryd.ntmps37
    go_wp2
    go_ret
    exact ⟨rfl, rfl⟩
  by_cases h2 : t = wordB 2
  · subst h2
    have f1 : ((wordB 2).toList == [100, 105, 114, 116, 121]) = false := by rw [list_w2]; rfl
    have f2 : ((wordB 2).toList == [99, 108, 101, 97, 110]) = true := by rw [list_w2]; rfl
    rw [show kindI (wordB 2) = 2 by simp [kindI, w12]]
    clear h1
    go_enter Tryd.func37, Tryd.ntmps37
    go_wp2
    go_ret
    exact ⟨rfl, rfl⟩
  have e : kindI t = 0 := by simp [kindI, h1, h2]
  rw [e]
  obtain ⟨n1, n1'⟩ := ne_list h1
  obtain ⟨n2, n2'⟩ := ne_list h2
  rw [list_w1] at n1'
  rw [list_w2] at n2'
  clear h1 h2 e n1 n2
  go_enter Tryd.func37, Tryd.ntmps37
  go_wp2
  go_ret
  exact ⟨rfl, rfl⟩

theorem res_words {tmps : Array Value} {w : World} {b : Nat} {k s a v : Int} {ok : Bool} (ht : tmps.getD 2 undef = .pointer (some ⟨b, 0, none⟩)) (hk : tmps.getD 3 undef = .bool ok) (h0 : w.cell? ⟨b, 0, none⟩ = some (.int .i64 k)) (h1 : w.cell? ⟨b, 1, none⟩ = some (.int .i64 s)) (h2 : w.cell? ⟨b, 2, none⟩ = some (.int .i64 a)) (h3 : w.cell? ⟨b, 3, none⟩ = some (.int .i64 v)) :
    (results Tryd.f27 tmps).run Tryd.prog w = .ok (.tuple #[.agg #[.int .i64 k, .int .i64 s, .int .i64 a, .int .i64 v], .bool ok]) w := by
  have ht' : tmps[2]?.getD undef = .pointer (some ⟨b, 0, none⟩) := by simpa using ht
  have hk' : tmps[3]?.getD undef = .bool ok := by simpa using hk
  simp [results, Tryd.results27, go_sem, ht', hk', h0, h1, h2, h3]

/-- What four words tell: a record, if each number is one. -/
def tellR (x b c d : ByteArray) : Int × Int × Int × Int × Bool :=
  match Lib.atoi b.data.toList, Lib.atoi c.data.toList, Lib.atoi d.data.toList with
  | some p, some q, some r => (kindI x, p, q, r, true)
  | _, _, _ => (0, 0, 0, 0, false)

set_option maxHeartbeats 2000000 in
theorem words4 (x b c d : ByteArray) (w : World) (bl : Nat) (hE : Env w) (h0 : w.cell? ⟨bl, 0, none⟩ = some (.string x)) (h1 : w.cell? ⟨bl, 1, none⟩ = some (.string b)) (h2 : w.cell? ⟨bl, 2, none⟩ = some (.string c)) (h3 : w.cell? ⟨bl, 3, none⟩ = some (.string d))
    (hb : b.size ≤ 18) (hc : c.size ≤ 18) (hd : d.size ≤ 18) :
    Calls Tryd.prog 27 #[.slice (some ⟨bl, 0, none⟩) 4 4] w fun e w' => e = .returned (.tuple #[.agg #[.int .i64 (tellR x b c d).1, .int .i64 (tellR x b c d).2.1, .int .i64 (tellR x b c d).2.2.1, .int .i64 (tellR x b c d).2.2.2.1], .bool (tellR x b c d).2.2.2.2]) ∧ Below w.heap.size w w' := by
  have HE : Hid (Env w) := hE
  clear hE
  have hlt : bl < w.heap.size := World.block_lt_of_cell? w ⟨bl, 0, none⟩ h0
  have hne : bl ≠ w.heap.size := by omega
  have b0 : ∀ o, Below w.heap.size w (w.alloc o) := fun o => (Below.refl _ _).alloc (Nat.le_refl _) o
  cases e1 : Lib.atoi b.data.toList <;> cases e2 : Lib.atoi c.data.toList <;> cases e3 : Lib.atoi d.data.toList
  all_goals
    simp only [tellR, e1, e2, e3]
    have E1 : Hid (Lib.atoi b.data.toList = _) := e1
    have E2 : Hid (Lib.atoi c.data.toList = _) := e2
    have E3 : Hid (Lib.atoi d.data.toList = _) := e3
    clear e1 e2 e3
    go_enter Tryd.func27, Tryd.ntmps27
    go_wp2_with fail
    first
      | (refine (atoi_yes _ _ _ hb E1.out).mono ?_; rintro e w1 ⟨rfl, b1⟩)
      | (refine (atoi_no _ _ hb E1.out (HE.out.below (b0 _))).mono ?_; rintro e w1 ⟨N1, rfl, b1⟩)
    have g0 := moved (moved h0 (b0 _)) b1
    have g2 := moved (moved h2 (b0 _)) b1
    have g3 := moved (moved h3 (b0 _)) b1
    go_wp2_with fail
    first
      | (refine (atoi_yes _ _ _ hc E2.out).mono ?_; rintro e w2 ⟨rfl, b2⟩)
      | (refine (atoi_no _ _ hc E2.out ((HE.out.below (b0 _)).below b1)).mono ?_; rintro e w2 ⟨N2, rfl, b2⟩)
    replace g0 := moved g0 b2
    replace g3 := moved g3 b2
    have b12 := b1.trans (b2.mono b1.size)
    clear g2 b2 b1
    go_wp2_with fail
    first
      | (refine (atoi_yes _ _ _ hd E3.out).mono ?_; rintro e w3 ⟨rfl, b3⟩)
      | (refine (atoi_no _ _ hd E3.out ((HE.out.below (b0 _)).below b12)).mono ?_; rintro e w3 ⟨N3, rfl, b3⟩)
    replace g0 := moved g0 b3
    have bA := b12.trans (b3.mono b12.size)
    clear g3 b3 b12 HE E1 E2 E3
    have r0 := moved_new bA 0 (.int .i64 0) rfl
    have r1 := moved_new bA 1 (.int .i64 0) rfl
    have r2 := moved_new bA 2 (.int .i64 0) rfl
    have r3 := moved_new bA 3 (.int .i64 0) rfl
    have q0 : w3.frozen? ⟨w.heap.size, 0, none⟩ = false := by rw [bA.frozen (p := ⟨w.heap.size, 0, none⟩) (by simp)]; simp
    have q1 : w3.frozen? ⟨w.heap.size, 1, none⟩ = false := by rw [bA.frozen (p := ⟨w.heap.size, 1, none⟩) (by simp)]; simp
    have q2 : w3.frozen? ⟨w.heap.size, 2, none⟩ = false := by rw [bA.frozen (p := ⟨w.heap.size, 2, none⟩) (by simp)]; simp
    have q3 : w3.frozen? ⟨w.heap.size, 3, none⟩ = false := by rw [bA.frozen (p := ⟨w.heap.size, 3, none⟩) (by simp)]; simp
    have bw : Below w.heap.size w w3 := (b0 _).trans (bA.mono (by simp))
    clear bA h0 h1 h2 h3
    go_wp2_with (go_at_call 37; refine (kind_any _ _).mono ?_; rintro e w4 ⟨rfl, rfl⟩)
    exact bodyPost_ret (res_words rfl rfl (by go_cell) (by go_cell) (by go_cell) (by go_cell)) rfl ⟨rfl, (((bw.setCell (Nat.le_refl _) _).setCell (Nat.le_refl _) _).setCell (Nat.le_refl _) _).setCell (Nat.le_refl _) _⟩

theorem wordsN (a : Option Addr) (n cap : Nat) (w : World) (hn : n ≠ 4) :
    Calls Tryd.prog 27 #[.slice a n cap] w fun e w' => e = .returned (.tuple #[.agg #[.int .i64 0, .int .i64 0, .int .i64 0, .int .i64 0], .bool false]) ∧ Below w.heap.size w w' := by
  have hf : ((n : Int) != 4) = true := by rw [bne_iff_ne]; omega
  go_enter Tryd.func27, Tryd.ntmps27
  go_wp2_with fail
  exact bodyPost_ret (res_words rfl rfl (by go_cell) (by go_cell) (by go_cell) (by go_cell)) rfl ⟨rfl, by go_grown⟩
end Go.Proofs.YtbgfdkpfejeliaaDoor.RRead
