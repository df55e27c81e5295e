/-
  Texts that belong together, one behind the other: LqF, Rw, PyE.
-/
import Derived.Test.YtbiokmojjneleaaGreatRaH
import Derived.Test.YtbiokmojjneleaaGreatRbS
import Derived.Test.YtbiokmojjneleaaGreatHaA
import Derived.Test.YtbiokmojjneleaaGreatRbB
import Derived.Test.YtbiokmojjneleaaGreatRcP
import Derived.Test.YtbiokmojjneleaaGreatRbU
import Derived.Test.YtbiokmojjneleaaGreatRcA

/-
  The laws' own comparing of pages, blocks and stores: it says true of the same only.
-/
namespace Go.Proofs.YtbiokmojjneleaaGreat.LqF
open Go.ChangeShapes Go.WideShapes Go.ChangeAt Go.RowKit OkA Big Fl ImplB ImplF ImplS _root_.Go.Proofs.YtbiokmojjneleaaGreat.Own ImplT ImplU SpecA SpecB LawsA LawsB LawsE StA StB LqI Kp Pl ImplW ImplL RmA NwA SpecL DoA
set_option linter.unusedVariables false
set_option linter.unusedSimpArgs false
attribute [local go_sem ↓] Go.wp_at_zero Go.wp_at_succ

theorem size_pgq (p : Pg) : (Tryz.prog.info? 66).map (·.size) = some (pgC p).length := by rw [len_pgC]; kernel_rfl
theorem pg_ext {p q : Pg} (h1 : p.st = q.st) (h2 : p.k = q.k) (h3 : p.s = q.s) (h4 : p.a = q.a) (h5 : p.v = q.v) : p = q := by
  cases p; cases q; simp at h1 h2 h3 h4 h5; simp [h1, h2, h3, h4, h5]

set_option maxHeartbeats 2000000 in
theorem lqPages_any (a1 a2 : Option Addr) (cap1 cap2 : Nat) (ps qs : List Pg) (w : World) (h1 : PsAt w a1 ps) (h2 : PsAt w a2 qs) (hl : ps.length ≤ 1048576) (hl2 : qs.length ≤ 1048576) :
    Calls Tryz.prog 86 #[.slice a1 ps.length cap1, .slice a2 qs.length cap2] w fun e w' => (∃ r, e = .returned (.bool r) ∧ (r = true ↔ ps = qs)) ∧ Below w.heap.size w w' := by
  have H1 := hide h1
  have H2 := hide h2
  clear h1 h2
  generalize hn : ps.length = n at *
  generalize hm : qs.length = m at *
  have HN := hide hn
  have HM := hide hm
  clear hn hm
  have hli : (n : Int) ≤ 1048576 := by omega
  have hmi : (m : Int) ≤ 1048576 := by omega
  go_enter Tryz.func86, Tryz.ntmps86
  by_cases hnm : n = m
  · subst hnm
    go_wp2
    go_loopw [5] (fun i w' => ∃ k : Nat, k ≤ n ∧ i = .int .i64 k ∧ Hid (∀ j (h : j < ps.length) (h' : j < qs.length), j < k → ps[j] = qs[j]) ∧ Below w.heap.size w w') (fun i _ => n - (intOf i).toNat)
    case atStart => exact ⟨0, by omega, rfl, (fun j _ _ hj => by omega), Below.refl _ _⟩
    case round =>
      obtain ⟨k, hk, rfl, HI, bw⟩ := hrel
      by_cases h0 : k = n
      · subst h0
        have HR : Hid (ps = qs) := List.ext_getElem (by have := unhide HN; have := unhide HM; omega) fun j q1 q2 => unhide HI j q1 q2 (by have := unhide HN; omega)
        clear HI
        go_wp2
        go_ret
        exact ⟨⟨true, rfl, fun _ => unhide HR, fun _ => rfl⟩, bw⟩
      · have hlt : (k : Int) < (n : Int) := by omega
        have hkb : k < ps.length := by have := unhide HN; omega
        have hkc : k < qs.length := by have := unhide HM; omega
        have hlo : (0 : Int) ≤ (k : Int) := by omega
        obtain ⟨b1, o1, rfl, g1⟩ : ∃ b o, a1 = some ⟨b, o, none⟩ ∧ wr.rangeAt b o (psC ps) := by
          rcases (unhide H1).below bw with rfl | h
          · simp at hkb
          · exact h
        obtain ⟨b2, o2, rfl, g2⟩ : ∃ b o, a2 = some ⟨b, o, none⟩ ∧ wr.rangeAt b o (psC qs) := by
          rcases (unhide H2).below bw with rfl | h
          · simp at hkc
          · exact h
        have x1 := range_pg g1 k hkb
        have x2 := range_pg g2 k hkc
        have HI2 : Hid (ps[k] = qs[k] → ∀ j (h : j < ps.length) (h' : j < qs.length), j < k + 1 → ps[j] = qs[j]) := fun e j h h' hj => by
          by_cases q : j = k
          · subst q; exact e
          · exact unhide HI j h h' (by omega)
        have HNE : Hid (ps = qs → ps[k] = qs[k]) := fun e => by subst e; rfl
        clear g1 g2 HI
        generalize ps[k] = p at *
        generalize qs[k] = q at *
        have HS1 := hide (size_pgq p)
        have HS2 := hide (size_pgq q)
        by_cases hpq : p = q
        · have HI3 := hide (unhide HI2 hpq)
          subst hpq
          go_wp2_with fail
          refine wp_region_noPanic ?_
          refine wp_region_held_drew (S := fun w' => w'.rangeAt b1 (o1 + k * 5) (pgC p) ∧ w'.rangeAt b2 (o2 + k * 5) (pgC p)) (by kernel_rfl) (⟨by simpa using x1, by simpa using x2⟩) (fun hHeld => ?_)
          refine takeL 0 (.slice (some ⟨b1, o1, none⟩) n cap1) rfl (by kernel_rfl) (by kernel_rfl) (by kernel_rfl) (fun _ _ _ h => h) (Or.inl ⟨rfl, fun _ _ => rfl⟩) hHeld ?_
          try simp only [Act.put, List.setIfInBounds_toArray, List.set_cons_zero, List.set_cons_succ]
          refine takeL 1 (.int .i64 k) rfl (by kernel_rfl) (by kernel_rfl) (by kernel_rfl) (fun _ _ _ h => h) (Or.inl ⟨rfl, fun _ _ => rfl⟩) hHeld ?_
          try simp only [Act.put, List.setIfInBounds_toArray, List.set_cons_zero, List.set_cons_succ]
          refine takeL 2 (.pointer (some ⟨b1, o1 + k * 5, none⟩)) rfl (by kernel_rfl) (by kernel_rfl) (by kernel_rfl) (fun _ _ _ h => h) (Or.inl ⟨rfl, fun w9 hSw => by go_simp⟩) hHeld ?_
          try simp only [Act.put, List.setIfInBounds_toArray, List.set_cons_zero, List.set_cons_succ]
          refine takeL 3 (.agg #[.int .i64 p.st, .int .i64 p.k, .int .i64 p.s, .int .i64 p.a, .int .i64 p.v]) rfl (by kernel_rfl) (by kernel_rfl) (by kernel_rfl) (fun _ _ _ h => h) (yieldsIf_load_mid rfl 66 _ rfl b1 (o1 + k * 5) rfl (pgC p) _ (fun _ h => h.1) Tryz.underlying66 rfl (unhide HS1)) hHeld ?_
          try simp only [Act.put, List.setIfInBounds_toArray, List.set_cons_zero, List.set_cons_succ]
          refine takeL 4 (.slice (some ⟨b2, o2, none⟩) n cap2) rfl (by kernel_rfl) (by kernel_rfl) (by kernel_rfl) (fun _ _ _ h => h) (Or.inl ⟨rfl, fun _ _ => rfl⟩) hHeld ?_
          try simp only [Act.put, List.setIfInBounds_toArray, List.set_cons_zero, List.set_cons_succ]
          refine takeL 5 (.int .i64 k) rfl (by kernel_rfl) (by kernel_rfl) (by kernel_rfl) (fun _ _ _ h => h) (Or.inl ⟨rfl, fun _ _ => rfl⟩) hHeld ?_
          try simp only [Act.put, List.setIfInBounds_toArray, List.set_cons_zero, List.set_cons_succ]
          refine takeL 6 (.pointer (some ⟨b2, o2 + k * 5, none⟩)) rfl (by kernel_rfl) (by kernel_rfl) (by kernel_rfl) (fun _ _ _ h => h) (Or.inl ⟨rfl, fun w9 hSw => by go_simp⟩) hHeld ?_
          try simp only [Act.put, List.setIfInBounds_toArray, List.set_cons_zero, List.set_cons_succ]
          refine takeL 7 (.agg #[.int .i64 p.st, .int .i64 p.k, .int .i64 p.s, .int .i64 p.a, .int .i64 p.v]) rfl (by kernel_rfl) (by kernel_rfl) (by kernel_rfl) (fun _ _ _ h => h) (yieldsIf_load_mid rfl 66 _ rfl b2 (o2 + k * 5) rfl (pgC p) _ (fun _ h => h.2) Tryz.underlying66 rfl (unhide HS2)) hHeld ?_
          try simp only [Act.put, List.setIfInBounds_toArray, List.set_cons_zero, List.set_cons_succ]
          refine takeL 8 (.bool false) rfl (by kernel_rfl) (by kernel_rfl) (by kernel_rfl) (fun _ _ _ h => h) (Or.inl ⟨rfl, fun w9 hSw => by go_simp⟩) hHeld ?_
          try simp only [Act.put, List.setIfInBounds_toArray, List.set_cons_zero, List.set_cons_succ]
          refine wpAnyH_done (by kernel_rfl) ?_ _
          refine NoPanic.normal ?_
          clear hHeld x1 x2
          go_wp2
          go_roundw
          case rel => exact ⟨k + 1, by omega, by first | rfl | go_num, unhide HI3, bw.drew⟩
          case measure => simp [intOf]; omega
        · clear HI2
          go_wp2_with fail
          refine wp_region_noPanic ?_
          refine wp_region_held_drew (S := fun w' => w'.rangeAt b1 (o1 + k * 5) (pgC p) ∧ w'.rangeAt b2 (o2 + k * 5) (pgC q)) (by kernel_rfl) (⟨by simpa using x1, by simpa using x2⟩) (fun hHeld => ?_)
          refine takeL 0 (.slice (some ⟨b1, o1, none⟩) n cap1) rfl (by kernel_rfl) (by kernel_rfl) (by kernel_rfl) (fun _ _ _ h => h) (Or.inl ⟨rfl, fun _ _ => rfl⟩) hHeld ?_
          try simp only [Act.put, List.setIfInBounds_toArray, List.set_cons_zero, List.set_cons_succ]
          refine takeL 1 (.int .i64 k) rfl (by kernel_rfl) (by kernel_rfl) (by kernel_rfl) (fun _ _ _ h => h) (Or.inl ⟨rfl, fun _ _ => rfl⟩) hHeld ?_
          try simp only [Act.put, List.setIfInBounds_toArray, List.set_cons_zero, List.set_cons_succ]
          refine takeL 2 (.pointer (some ⟨b1, o1 + k * 5, none⟩)) rfl (by kernel_rfl) (by kernel_rfl) (by kernel_rfl) (fun _ _ _ h => h) (Or.inl ⟨rfl, fun w9 hSw => by go_simp⟩) hHeld ?_
          try simp only [Act.put, List.setIfInBounds_toArray, List.set_cons_zero, List.set_cons_succ]
          refine takeL 3 (.agg #[.int .i64 p.st, .int .i64 p.k, .int .i64 p.s, .int .i64 p.a, .int .i64 p.v]) rfl (by kernel_rfl) (by kernel_rfl) (by kernel_rfl) (fun _ _ _ h => h) (yieldsIf_load_mid rfl 66 _ rfl b1 (o1 + k * 5) rfl (pgC p) _ (fun _ h => h.1) Tryz.underlying66 rfl (unhide HS1)) hHeld ?_
          try simp only [Act.put, List.setIfInBounds_toArray, List.set_cons_zero, List.set_cons_succ]
          refine takeL 4 (.slice (some ⟨b2, o2, none⟩) n cap2) rfl (by kernel_rfl) (by kernel_rfl) (by kernel_rfl) (fun _ _ _ h => h) (Or.inl ⟨rfl, fun _ _ => rfl⟩) hHeld ?_
          try simp only [Act.put, List.setIfInBounds_toArray, List.set_cons_zero, List.set_cons_succ]
          refine takeL 5 (.int .i64 k) rfl (by kernel_rfl) (by kernel_rfl) (by kernel_rfl) (fun _ _ _ h => h) (Or.inl ⟨rfl, fun _ _ => rfl⟩) hHeld ?_
          try simp only [Act.put, List.setIfInBounds_toArray, List.set_cons_zero, List.set_cons_succ]
          refine takeL 6 (.pointer (some ⟨b2, o2 + k * 5, none⟩)) rfl (by kernel_rfl) (by kernel_rfl) (by kernel_rfl) (fun _ _ _ h => h) (Or.inl ⟨rfl, fun w9 hSw => by go_simp⟩) hHeld ?_
          try simp only [Act.put, List.setIfInBounds_toArray, List.set_cons_zero, List.set_cons_succ]
          refine takeL 7 (.agg #[.int .i64 q.st, .int .i64 q.k, .int .i64 q.s, .int .i64 q.a, .int .i64 q.v]) rfl (by kernel_rfl) (by kernel_rfl) (by kernel_rfl) (fun _ _ _ h => h) (yieldsIf_load_mid rfl 66 _ rfl b2 (o2 + k * 5) rfl (pgC q) _ (fun _ h => h.2) Tryz.underlying66 rfl (unhide HS2)) hHeld ?_
          try simp only [Act.put, List.setIfInBounds_toArray, List.set_cons_zero, List.set_cons_succ]
          refine takeL 8 (.bool true) rfl (by kernel_rfl) (by kernel_rfl) (by kernel_rfl) (fun _ _ _ h => h) (Or.inl ⟨rfl, fun w9 hSw => by go_simp; exact fun e1 e2 e3 e4 e5 => hpq (pg_ext e1 e2 e3 e4 e5)⟩) hHeld ?_
          try simp only [Act.put, List.setIfInBounds_toArray, List.set_cons_zero, List.set_cons_succ]
          refine wpAnyH_done (by kernel_rfl) ?_ _
          refine NoPanic.normal ?_
          clear hHeld x1 x2
          go_wp2
          go_ret
          exact ⟨⟨false, rfl, (fun h => by cases h), fun e => absurd (unhide HNE e) hpq⟩, bw.drew⟩
  · have hni : ¬ (n : Int) = (m : Int) := by omega
    go_wp2
    go_ret
    exact ⟨⟨false, rfl, (fun h => by cases h), fun e => absurd (by have := unhide HN; have := unhide HM; rw [e] at *; omega) hnm⟩, Below.refl _ _⟩

theorem bk_ext {b c : Bk} (h1 : b.ps = c.ps) (h2 : b.wn = c.wn) : b = c := by cases b; cases c; simp at h1 h2; simp [h1, h2]
set_option maxHeartbeats 2000000 in
theorem lqFlash_any (a1 a2 : Option Addr) (cap1 cap2 : Nat) (bs cs : List Bk) (w : World) (h1 : FsAt w a1 bs) (h2 : FsAt w a2 cs) (hl : bs.length ≤ 1048576) (hl2 : cs.length ≤ 1048576) (hp : ∀ b ∈ bs, b.ps.length ≤ 1048576) (hp2 : ∀ b ∈ cs, b.ps.length ≤ 1048576) :
    Calls Tryz.prog 56 #[.slice a1 bs.length cap1, .slice a2 cs.length cap2] w fun e w' => (∃ r, e = .returned (.bool r) ∧ (r = true ↔ bs = cs)) ∧ Below w.heap.size w w' := by
  have H1 := hide h1
  have H2 := hide h2
  have HP := hide hp
  have HP2 := hide hp2
  clear h1 h2 hp hp2
  generalize hn : bs.length = n at *
  generalize hm : cs.length = m at *
  have HN := hide hn
  have HM := hide hm
  clear hn hm
  have hli : (n : Int) ≤ 1048576 := by omega
  have hmi : (m : Int) ≤ 1048576 := by omega
  go_enter Tryz.func56, Tryz.ntmps56
  by_cases hnm : n = m
  · subst hnm
    go_wp2
    go_loopw [5] (fun i w' => ∃ k : Nat, k ≤ n ∧ i = .int .i64 k ∧ Hid (∀ j (h : j < bs.length) (h' : j < cs.length), j < k → bs[j] = cs[j]) ∧ Below w.heap.size w w') (fun i _ => n - (intOf i).toNat)
    case atStart => exact ⟨0, by omega, rfl, (fun j _ _ hj => by omega), Below.refl _ _⟩
    case round =>
      obtain ⟨k, hk, rfl, HI, bw⟩ := hrel
      by_cases h0 : k = n
      · subst h0
        have HR : Hid (bs = cs) := List.ext_getElem (by have := unhide HN; have := unhide HM; omega) fun j q1 q2 => unhide HI j q1 q2 (by have := unhide HN; omega)
        clear HI
        go_wp2
        go_ret
        exact ⟨⟨true, rfl, fun _ => unhide HR, fun _ => rfl⟩, bw⟩
      · have hlt : (k : Int) < (n : Int) := by omega
        have hkb : k < bs.length := by have := unhide HN; omega
        have hkc : k < cs.length := by have := unhide HM; omega
        have hlo : (0 : Int) ≤ (k : Int) := by omega
        obtain ⟨b1, o1, rfl, g1⟩ : ∃ b o, a1 = some ⟨b, o, none⟩ ∧ ∀ i (hi : i < bs.length), BkAt wr b (o + i * 2) bs[i] := by
          rcases (unhide H1).below bw with rfl | h
          · simp at hkb
          · exact h
        obtain ⟨b2, o2, rfl, g2⟩ : ∃ b o, a2 = some ⟨b, o, none⟩ ∧ ∀ i (hi : i < cs.length), BkAt wr b (o + i * 2) cs[i] := by
          rcases (unhide H2).below bw with rfl | h
          · simp at hkc
          · exact h
        obtain ⟨p1, c1, d0, d1, q1⟩ := g1 k hkb
        obtain ⟨p2, c2, e0, e1, q2⟩ := g2 k hkc
        have l1 : b1 < wr.heap.size := by have := cell_lt d0; simpa using this
        have l2 : b2 < wr.heap.size := by have := cell_lt e0; simpa using this
        have HC := hide (fun (w : World) (h : PsAt w p1 bs[k].ps) (h' : PsAt w p2 cs[k].ps) => lqPages_any p1 p2 c1 c2 bs[k].ps cs[k].ps w h h' (unhide HP _ (List.getElem_mem hkb)) (unhide HP2 _ (List.getElem_mem hkc)))
        have HI2 : Hid (bs[k] = cs[k] → ∀ j (h : j < bs.length) (h' : j < cs.length), j < k + 1 → bs[j] = cs[j]) := fun e j h h' hj => by
          by_cases q : j = k
          · subst q; exact e
          · exact unhide HI j h h' (by omega)
        have HNE : Hid (bs = cs → bs[k] = cs[k]) := fun e => by subst e; rfl
        clear g1 g2 HI
        generalize bs[k] = b at *
        generalize cs[k] = c at *
        by_cases hw : b.wn = c.wn
        · have hwb : (b.wn == c.wn) = true := by simpa using hw
          go_wp2_with fail
          refine wp_region_noPanic ?_
          refine wp_region_held_drew (S := fun w' => Kept [] wr w') (by kernel_rfl) (Kept.refl _ _).drew (fun hHeld => ?_)
          generalize wr.drew = y0 at *
          have z0 := hHeld.size
          refine takeL 0 (.slice (some ⟨b1, o1, none⟩) n cap1) rfl (by kernel_rfl) (by kernel_rfl) (by kernel_rfl) (fun _ _ _ h => h) (Or.inl ⟨rfl, fun _ _ => rfl⟩) hHeld ?_
          try simp only [Act.put, List.setIfInBounds_toArray, List.set_cons_zero, List.set_cons_succ]
          refine takeL 1 (.int .i64 (k : Int)) rfl (by kernel_rfl) (by kernel_rfl) (by kernel_rfl) (fun _ _ _ h => h) (Or.inl ⟨rfl, fun _ _ => rfl⟩) hHeld ?_
          try simp only [Act.put, List.setIfInBounds_toArray, List.set_cons_zero, List.set_cons_succ]
          refine takeL 2 (.pointer (some ⟨b1, o1 + k * 2, none⟩)) rfl (by kernel_rfl) (by kernel_rfl) (by kernel_rfl) (fun _ _ _ h => h) (Or.inl ⟨rfl, fun w9 hSw => by go_simp⟩) hHeld ?_
          try simp only [Act.put, List.setIfInBounds_toArray, List.set_cons_zero, List.set_cons_succ]
          refine takeL 3 (.pointer (some ⟨b1, o1 + k * 2 + 1, none⟩)) rfl (by kernel_rfl) (by kernel_rfl) (by kernel_rfl) (fun _ _ _ h => h) (Or.inl ⟨rfl, fun w9 hSw => by go_simp⟩) hHeld ?_
          try simp only [Act.put, List.setIfInBounds_toArray, List.set_cons_zero, List.set_cons_succ]
          refine takeL 4 (.int .i64 b.wn) rfl (by kernel_rfl) (by kernel_rfl) (by kernel_rfl) (fun _ _ _ h => h) (Or.inl ⟨rfl, fun w9 hSw => by have hc := (hSw.cell (b := b1) (o1 + k * 2 + 1) l1 (by simp)).trans d1; go_simp⟩) hHeld ?_
          try simp only [Act.put, List.setIfInBounds_toArray, List.set_cons_zero, List.set_cons_succ]
          refine takeL 5 (.slice (some ⟨b2, o2, none⟩) n cap2) rfl (by kernel_rfl) (by kernel_rfl) (by kernel_rfl) (fun _ _ _ h => h) (Or.inl ⟨rfl, fun _ _ => rfl⟩) hHeld ?_
          try simp only [Act.put, List.setIfInBounds_toArray, List.set_cons_zero, List.set_cons_succ]
          refine takeL 6 (.int .i64 (k : Int)) rfl (by kernel_rfl) (by kernel_rfl) (by kernel_rfl) (fun _ _ _ h => h) (Or.inl ⟨rfl, fun _ _ => rfl⟩) hHeld ?_
          try simp only [Act.put, List.setIfInBounds_toArray, List.set_cons_zero, List.set_cons_succ]
          refine takeL 7 (.pointer (some ⟨b2, o2 + k * 2, none⟩)) rfl (by kernel_rfl) (by kernel_rfl) (by kernel_rfl) (fun _ _ _ h => h) (Or.inl ⟨rfl, fun w9 hSw => by go_simp⟩) hHeld ?_
          try simp only [Act.put, List.setIfInBounds_toArray, List.set_cons_zero, List.set_cons_succ]
          refine takeL 8 (.pointer (some ⟨b2, o2 + k * 2 + 1, none⟩)) rfl (by kernel_rfl) (by kernel_rfl) (by kernel_rfl) (fun _ _ _ h => h) (Or.inl ⟨rfl, fun w9 hSw => by go_simp⟩) hHeld ?_
          try simp only [Act.put, List.setIfInBounds_toArray, List.set_cons_zero, List.set_cons_succ]
          refine takeL 9 (.int .i64 c.wn) rfl (by kernel_rfl) (by kernel_rfl) (by kernel_rfl) (fun _ _ _ h => h) (Or.inl ⟨rfl, fun w9 hSw => by have hc := (hSw.cell (b := b2) (o2 + k * 2 + 1) l2 (by simp)).trans e1; go_simp⟩) hHeld ?_
          try simp only [Act.put, List.setIfInBounds_toArray, List.set_cons_zero, List.set_cons_succ]
          refine takeL 10 (.bool false) rfl (by kernel_rfl) (by kernel_rfl) (by kernel_rfl) (fun _ _ _ h => h) (Or.inl ⟨rfl, fun w9 hSw => by go_simp⟩) hHeld ?_
          try simp only [Act.put, List.setIfInBounds_toArray, List.set_cons_zero, List.set_cons_succ]
          refine takeL 11 (.bool false) rfl (by kernel_rfl) (by kernel_rfl) (by kernel_rfl) (fun _ _ _ h => h) (Or.inl ⟨rfl, fun _ _ => rfl⟩) hHeld ?_
          try simp only [Act.put, List.setIfInBounds_toArray, List.set_cons_zero, List.set_cons_succ]
          refine takeL 12 (.slice (some ⟨b1, o1, none⟩) n cap1) rfl (by kernel_rfl) (by kernel_rfl) (by kernel_rfl) (fun _ _ _ h => h) (Or.inl ⟨rfl, fun _ _ => rfl⟩) hHeld ?_
          try simp only [Act.put, List.setIfInBounds_toArray, List.set_cons_zero, List.set_cons_succ]
          refine takeL 13 (.int .i64 (k : Int)) rfl (by kernel_rfl) (by kernel_rfl) (by kernel_rfl) (fun _ _ _ h => h) (Or.inl ⟨rfl, fun _ _ => rfl⟩) hHeld ?_
          try simp only [Act.put, List.setIfInBounds_toArray, List.set_cons_zero, List.set_cons_succ]
          refine takeL 14 (.pointer (some ⟨b1, o1 + k * 2, none⟩)) rfl (by kernel_rfl) (by kernel_rfl) (by kernel_rfl) (fun _ _ _ h => h) (Or.inl ⟨rfl, fun w9 hSw => by go_simp⟩) hHeld ?_
          try simp only [Act.put, List.setIfInBounds_toArray, List.set_cons_zero, List.set_cons_succ]
          refine takeL 15 (.pointer (some ⟨b1, o1 + k * 2, none⟩)) rfl (by kernel_rfl) (by kernel_rfl) (by kernel_rfl) (fun _ _ _ h => h) (Or.inl ⟨rfl, fun w9 hSw => by go_simp⟩) hHeld ?_
          try simp only [Act.put, List.setIfInBounds_toArray, List.set_cons_zero, List.set_cons_succ]
          refine takeL 16 (.slice p1 b.ps.length c1) rfl (by kernel_rfl) (by kernel_rfl) (by kernel_rfl) (fun _ _ _ h => h) (Or.inl ⟨rfl, fun w9 hSw => by have hc := (hSw.cell (b := b1) (o1 + k * 2) l1 (by simp)).trans d0; go_simp⟩) hHeld ?_
          try simp only [Act.put, List.setIfInBounds_toArray, List.set_cons_zero, List.set_cons_succ]
          refine takeL 17 (.slice (some ⟨b2, o2, none⟩) n cap2) rfl (by kernel_rfl) (by kernel_rfl) (by kernel_rfl) (fun _ _ _ h => h) (Or.inl ⟨rfl, fun _ _ => rfl⟩) hHeld ?_
          try simp only [Act.put, List.setIfInBounds_toArray, List.set_cons_zero, List.set_cons_succ]
          refine takeL 18 (.int .i64 (k : Int)) rfl (by kernel_rfl) (by kernel_rfl) (by kernel_rfl) (fun _ _ _ h => h) (Or.inl ⟨rfl, fun _ _ => rfl⟩) hHeld ?_
          try simp only [Act.put, List.setIfInBounds_toArray, List.set_cons_zero, List.set_cons_succ]
          refine takeL 19 (.pointer (some ⟨b2, o2 + k * 2, none⟩)) rfl (by kernel_rfl) (by kernel_rfl) (by kernel_rfl) (fun _ _ _ h => h) (Or.inl ⟨rfl, fun w9 hSw => by go_simp⟩) hHeld ?_
          try simp only [Act.put, List.setIfInBounds_toArray, List.set_cons_zero, List.set_cons_succ]
          refine takeL 20 (.pointer (some ⟨b2, o2 + k * 2, none⟩)) rfl (by kernel_rfl) (by kernel_rfl) (by kernel_rfl) (fun _ _ _ h => h) (Or.inl ⟨rfl, fun w9 hSw => by go_simp⟩) hHeld ?_
          try simp only [Act.put, List.setIfInBounds_toArray, List.set_cons_zero, List.set_cons_succ]
          refine takeL 21 (.slice p2 c.ps.length c2) rfl (by kernel_rfl) (by kernel_rfl) (by kernel_rfl) (fun _ _ _ h => h) (Or.inl ⟨rfl, fun w9 hSw => by have hc := (hSw.cell (b := b2) (o2 + k * 2) l2 (by simp)).trans e0; go_simp⟩) hHeld ?_
          try simp only [Act.put, List.setIfInBounds_toArray, List.set_cons_zero, List.set_cons_succ]
          refine oneL 22 rfl (by kernel_rfl) rfl (fun K hK => ?_)
          go_simp
          refine (unhide HC _ (q1.below (Kept.all hHeld (by simp))) (q2.below (Kept.all hHeld (by simp)))).mono ?_
          rintro e y1 ⟨⟨r, rfl, hr⟩, b⟩
          go_wp2_with fail
          refine hK.out _ _ (hHeld.trans (Kept.of b)) (fun hHeld => ?_)
          clear hK K
          try simp only [Act.put, List.setIfInBounds_toArray, List.set_cons_zero, List.set_cons_succ]
          have z1 := b.size
          clear b
          refine takeL 23 (.bool (!r)) rfl (by kernel_rfl) (by kernel_rfl) (by kernel_rfl) (fun _ _ _ h => h) (Or.inl ⟨rfl, fun w9 hSw => by go_simp⟩) hHeld ?_
          try simp only [Act.put, List.setIfInBounds_toArray, List.set_cons_zero, List.set_cons_succ]
          refine takeL 24 (.bool (!r)) rfl (by kernel_rfl) (by kernel_rfl) (by kernel_rfl) (fun _ _ _ h => h) (Or.inl ⟨rfl, fun w9 hSw => by go_simp⟩) hHeld ?_
          try simp only [Act.put, List.setIfInBounds_toArray, List.set_cons_zero, List.set_cons_succ]
          refine wpAnyH_done (by kernel_rfl) ?_ _
          refine NoPanic.normal ?_
          have bz := bw.trans ((Kept.all hHeld (by simp)).mono bw.size)
          clear d0 d1 e0 e1 hHeld q1 q2 hwb
          cases r
          · have hne : ¬ bs = cs := fun e => by have := hr.2 (congrArg Bk.ps (unhide HNE e)); cases this
            clear hr
            go_wp2
            go_ret
            exact ⟨⟨false, rfl, (fun h => by cases h), fun e => absurd e hne⟩, bz⟩
          · have HI3 := hide (unhide HI2 (bk_ext (hr.1 rfl) hw))
            clear hr hw
            go_wp2
            go_roundw
            case rel => exact ⟨k + 1, by omega, by first | rfl | go_num, unhide HI3, bz⟩
            case measure => simp [intOf]; omega
        · have hwb : (b.wn == c.wn) = false := by simpa using hw
          have hne : ¬ bs = cs := fun e => hw (congrArg Bk.wn (unhide HNE e))
          go_wp2_with fail
          refine wp_region_noPanic ?_
          refine wp_region_held_drew (S := fun w' => Kept [] wr w') (by kernel_rfl) (Kept.refl _ _).drew (fun hHeld => ?_)
          generalize wr.drew = y0 at *
          have z0 := hHeld.size
          refine takeL 0 (.slice (some ⟨b1, o1, none⟩) n cap1) rfl (by kernel_rfl) (by kernel_rfl) (by kernel_rfl) (fun _ _ _ h => h) (Or.inl ⟨rfl, fun _ _ => rfl⟩) hHeld ?_
          try simp only [Act.put, List.setIfInBounds_toArray, List.set_cons_zero, List.set_cons_succ]
          refine takeL 1 (.int .i64 (k : Int)) rfl (by kernel_rfl) (by kernel_rfl) (by kernel_rfl) (fun _ _ _ h => h) (Or.inl ⟨rfl, fun _ _ => rfl⟩) hHeld ?_
          try simp only [Act.put, List.setIfInBounds_toArray, List.set_cons_zero, List.set_cons_succ]
          refine takeL 2 (.pointer (some ⟨b1, o1 + k * 2, none⟩)) rfl (by kernel_rfl) (by kernel_rfl) (by kernel_rfl) (fun _ _ _ h => h) (Or.inl ⟨rfl, fun w9 hSw => by go_simp⟩) hHeld ?_
          try simp only [Act.put, List.setIfInBounds_toArray, List.set_cons_zero, List.set_cons_succ]
          refine takeL 3 (.pointer (some ⟨b1, o1 + k * 2 + 1, none⟩)) rfl (by kernel_rfl) (by kernel_rfl) (by kernel_rfl) (fun _ _ _ h => h) (Or.inl ⟨rfl, fun w9 hSw => by go_simp⟩) hHeld ?_
          try simp only [Act.put, List.setIfInBounds_toArray, List.set_cons_zero, List.set_cons_succ]
          refine takeL 4 (.int .i64 b.wn) rfl (by kernel_rfl) (by kernel_rfl) (by kernel_rfl) (fun _ _ _ h => h) (Or.inl ⟨rfl, fun w9 hSw => by have hc := (hSw.cell (b := b1) (o1 + k * 2 + 1) l1 (by simp)).trans d1; go_simp⟩) hHeld ?_
          try simp only [Act.put, List.setIfInBounds_toArray, List.set_cons_zero, List.set_cons_succ]
          refine takeL 5 (.slice (some ⟨b2, o2, none⟩) n cap2) rfl (by kernel_rfl) (by kernel_rfl) (by kernel_rfl) (fun _ _ _ h => h) (Or.inl ⟨rfl, fun _ _ => rfl⟩) hHeld ?_
          try simp only [Act.put, List.setIfInBounds_toArray, List.set_cons_zero, List.set_cons_succ]
          refine takeL 6 (.int .i64 (k : Int)) rfl (by kernel_rfl) (by kernel_rfl) (by kernel_rfl) (fun _ _ _ h => h) (Or.inl ⟨rfl, fun _ _ => rfl⟩) hHeld ?_
          try simp only [Act.put, List.setIfInBounds_toArray, List.set_cons_zero, List.set_cons_succ]
          refine takeL 7 (.pointer (some ⟨b2, o2 + k * 2, none⟩)) rfl (by kernel_rfl) (by kernel_rfl) (by kernel_rfl) (fun _ _ _ h => h) (Or.inl ⟨rfl, fun w9 hSw => by go_simp⟩) hHeld ?_
          try simp only [Act.put, List.setIfInBounds_toArray, List.set_cons_zero, List.set_cons_succ]
          refine takeL 8 (.pointer (some ⟨b2, o2 + k * 2 + 1, none⟩)) rfl (by kernel_rfl) (by kernel_rfl) (by kernel_rfl) (fun _ _ _ h => h) (Or.inl ⟨rfl, fun w9 hSw => by go_simp⟩) hHeld ?_
          try simp only [Act.put, List.setIfInBounds_toArray, List.set_cons_zero, List.set_cons_succ]
          refine takeL 9 (.int .i64 c.wn) rfl (by kernel_rfl) (by kernel_rfl) (by kernel_rfl) (fun _ _ _ h => h) (Or.inl ⟨rfl, fun w9 hSw => by have hc := (hSw.cell (b := b2) (o2 + k * 2 + 1) l2 (by simp)).trans e1; go_simp⟩) hHeld ?_
          try simp only [Act.put, List.setIfInBounds_toArray, List.set_cons_zero, List.set_cons_succ]
          refine takeL 10 (.bool true) rfl (by kernel_rfl) (by kernel_rfl) (by kernel_rfl) (fun _ _ _ h => h) (Or.inl ⟨rfl, fun w9 hSw => by go_simp⟩) hHeld ?_
          try simp only [Act.put, List.setIfInBounds_toArray, List.set_cons_zero, List.set_cons_succ]
          refine takeL 11 (.bool true) rfl (by kernel_rfl) (by kernel_rfl) (by kernel_rfl) (fun _ _ _ h => h) (Or.inl ⟨rfl, fun _ _ => rfl⟩) hHeld ?_
          try simp only [Act.put, List.setIfInBounds_toArray, List.set_cons_zero, List.set_cons_succ]
          refine takeL 12 (undef) rfl (by kernel_rfl) (by kernel_rfl) (by kernel_rfl) (fun _ _ _ h => h) (Or.inr ⟨rfl, rfl⟩) hHeld ?_
          try simp only [Act.put, List.setIfInBounds_toArray, List.set_cons_zero, List.set_cons_succ]
          refine takeL 13 (undef) rfl (by kernel_rfl) (by kernel_rfl) (by kernel_rfl) (fun _ _ _ h => h) (Or.inr ⟨rfl, rfl⟩) hHeld ?_
          try simp only [Act.put, List.setIfInBounds_toArray, List.set_cons_zero, List.set_cons_succ]
          refine takeL 14 (undef) rfl (by kernel_rfl) (by kernel_rfl) (by kernel_rfl) (fun _ _ _ h => h) (Or.inr ⟨rfl, rfl⟩) hHeld ?_
          try simp only [Act.put, List.setIfInBounds_toArray, List.set_cons_zero, List.set_cons_succ]
          refine takeL 15 (undef) rfl (by kernel_rfl) (by kernel_rfl) (by kernel_rfl) (fun _ _ _ h => h) (Or.inr ⟨rfl, rfl⟩) hHeld ?_
          try simp only [Act.put, List.setIfInBounds_toArray, List.set_cons_zero, List.set_cons_succ]
          refine takeL 16 (undef) rfl (by kernel_rfl) (by kernel_rfl) (by kernel_rfl) (fun _ _ _ h => h) (Or.inr ⟨rfl, rfl⟩) hHeld ?_
          try simp only [Act.put, List.setIfInBounds_toArray, List.set_cons_zero, List.set_cons_succ]
          refine takeL 17 (undef) rfl (by kernel_rfl) (by kernel_rfl) (by kernel_rfl) (fun _ _ _ h => h) (Or.inr ⟨rfl, rfl⟩) hHeld ?_
          try simp only [Act.put, List.setIfInBounds_toArray, List.set_cons_zero, List.set_cons_succ]
          refine takeL 18 (undef) rfl (by kernel_rfl) (by kernel_rfl) (by kernel_rfl) (fun _ _ _ h => h) (Or.inr ⟨rfl, rfl⟩) hHeld ?_
          try simp only [Act.put, List.setIfInBounds_toArray, List.set_cons_zero, List.set_cons_succ]
          refine takeL 19 (undef) rfl (by kernel_rfl) (by kernel_rfl) (by kernel_rfl) (fun _ _ _ h => h) (Or.inr ⟨rfl, rfl⟩) hHeld ?_
          try simp only [Act.put, List.setIfInBounds_toArray, List.set_cons_zero, List.set_cons_succ]
          refine takeL 20 (undef) rfl (by kernel_rfl) (by kernel_rfl) (by kernel_rfl) (fun _ _ _ h => h) (Or.inr ⟨rfl, rfl⟩) hHeld ?_
          try simp only [Act.put, List.setIfInBounds_toArray, List.set_cons_zero, List.set_cons_succ]
          refine takeL 21 (undef) rfl (by kernel_rfl) (by kernel_rfl) (by kernel_rfl) (fun _ _ _ h => h) (Or.inr ⟨rfl, rfl⟩) hHeld ?_
          try simp only [Act.put, List.setIfInBounds_toArray, List.set_cons_zero, List.set_cons_succ]
          refine takeL 22 (undef) rfl (by kernel_rfl) (by kernel_rfl) (by kernel_rfl) (fun _ _ _ h => h) (Or.inr ⟨rfl, rfl⟩) hHeld ?_
          try simp only [Act.put, List.setIfInBounds_toArray, List.set_cons_zero, List.set_cons_succ]
          refine takeL 23 (undef) rfl (by kernel_rfl) (by kernel_rfl) (by kernel_rfl) (fun _ _ _ h => h) (Or.inr ⟨rfl, rfl⟩) hHeld ?_
          try simp only [Act.put, List.setIfInBounds_toArray, List.set_cons_zero, List.set_cons_succ]
          refine takeL 24 (.bool true) rfl (by kernel_rfl) (by kernel_rfl) (by kernel_rfl) (fun _ _ _ h => h) (Or.inl ⟨rfl, fun w9 hSw => by go_simp⟩) hHeld ?_
          try simp only [Act.put, List.setIfInBounds_toArray, List.set_cons_zero, List.set_cons_succ]
          refine wpAnyH_done (by kernel_rfl) ?_ _
          refine NoPanic.normal ?_
          have bz := bw.trans ((Kept.all hHeld (by simp)).mono bw.size)
          clear d0 d1 e0 e1 hHeld q1 q2 hwb
          go_wp2
          go_ret
          exact ⟨⟨false, rfl, (fun h => by cases h), fun e => absurd e hne⟩, bz⟩
  · have hni : ¬ (n : Int) = (m : Int) := by omega
    go_wp2
    go_ret
    exact ⟨⟨false, rfl, (fun h => by cases h), fun e => absurd (by have := unhide HN; have := unhide HM; rw [e] at *; omega) hnm⟩, Below.refl _ _⟩

set_option maxHeartbeats 2000000 in
theorem lqStore_any (fa ga da ea : Option Addr) (fc gc dc ec : Nat) (bs cs : List Bk) (dk ek : List Int) (w : World) (h1 : FsAt w fa bs) (h2 : FsAt w ga cs) (k1 : DkAt w da dk) (k2 : DkAt w ea ek) (hl : bs.length ≤ 1048576) (hl2 : cs.length ≤ 1048576) (hp : ∀ b ∈ bs, b.ps.length ≤ 1048576) (hp2 : ∀ b ∈ cs, b.ps.length ≤ 1048576) (hd : dk.length ≤ 1048576) (hd2 : ek.length ≤ 1048576) :
    Calls Tryz.prog 23 #[.agg #[.slice fa bs.length fc, .slice da dk.length dc], .agg #[.slice ga cs.length gc, .slice ea ek.length ec]] w fun e w' => (∃ r, e = .returned (.bool r) ∧ (r = true ↔ bs = cs ∧ dk = ek)) ∧ Below w.heap.size w w' := by
  have B1 : Below w.heap.size w ((w.alloc (.cells #[.slice fa bs.length fc, .slice da dk.length dc] 26)).alloc (.cells #[.slice ga cs.length gc, .slice ea ek.length ec] 26)) := ((Below.refl _ _).alloc (Nat.le_refl _) _).alloc (by simp) _
  have cA := (CsAt.new w [.slice fa bs.length fc, .slice da dk.length dc] 26).alloc (by simp) (.cells #[.slice ga cs.length gc, .slice ea ek.length ec] 26)
  have cB := CsAt.new (w.alloc (.cells #[.slice fa bs.length fc, .slice da dk.length dc] 26)) [.slice ga cs.length gc, .slice ea ek.length ec] 26
  rw [World.size_alloc] at cB
  have s0 : w.heap.size + 2 ≤ ((w.alloc (.cells #[.slice fa bs.length fc, .slice da dk.length dc] 26)).alloc (.cells #[.slice ga cs.length gc, .slice ea ek.length ec] 26)).heap.size := by simp
  have HC := hide (lqFlash_any fa ga fc gc bs cs _ (h1.below B1) (h2.below B1) hl hl2 hp hp2)
  have HK1 := hide (k1.below B1)
  have HK2 := hide (k2.below B1)
  clear h1 h2 k1 k2 hp hp2
  go_enter Tryz.func23, Tryz.ntmps23
  have x0 := cA.cell 0 _ rfl
  have x1 := cA.cell 1 _ rfl
  have y0 := cB.cell 0 _ rfl
  have y1 := cB.cell 1 _ rfl
  go_wp2_with fail
  generalize (w.alloc (.cells #[.slice fa bs.length fc, .slice da dk.length dc] 26)).alloc (.cells #[.slice ga cs.length gc, .slice ea ek.length ec] 26) = w1 at *
  refine (unhide HC).mono ?_
  rintro e w2 ⟨⟨r, rfl, hr⟩, b⟩
  have B2 := B1.trans (b.mono B1.size)
  have HL := hide (lqInts_any da ea dc ec dk ek _ ((unhide HK1).below b) ((unhide HK2).below b) hd hd2)
  replace cA := cA.below b (by omega)
  replace cB := cB.below b (by omega)
  clear x0 x1 y0 y1 b B1 HC HK1 HK2
  have x1 := cA.cell 1 _ rfl
  have y1 := cB.cell 1 _ rfl
  clear cA cB s0
  have HR := hide hr
  clear hr
  cases r
  · clear HL x1 y1
    go_wp2
    go_ret
    exact ⟨⟨false, rfl, (fun h => by cases h), fun e => (unhide HR).2 e.1⟩, B2⟩
  · go_wp2_with fail
    refine (unhide HL).mono ?_
    rintro e w3 ⟨rfl, b⟩
    have B3 := B2.trans (b.mono B2.size)
    clear x1 y1 b HL B2
    go_wp2
    go_ret
    exact ⟨⟨sameL dk ek, rfl, (fun h => ⟨(unhide HR).1 (by trivial), same_iff.1 h⟩), fun e => same_iff.2 e.2⟩, B3⟩
end Go.Proofs.YtbiokmojjneleaaGreat.LqF

/-
  What laws of plays call, in the shape in which they are walked: stores that are ok, of four blocks and six values.
-/
namespace Go.Proofs.YtbiokmojjneleaaGreat.Rw
open TwA Go.ChangeShapes Go.WideShapes Go.ChangeAt Go.RowKit Go.Shelf OkA Big Fl ImplB ImplF ImplS _root_.Go.Proofs.YtbiokmojjneleaaGreat.Own ImplT ImplU SpecA SpecB SpecC SpecD SpecW SpecX SpecF SpecG SpecH Ok2 Pl FindP FindN FindL FindO FindQ SpecO ImplQ ImplL Kp StA StB StC StD StE StF StG SpS SpT Sv Px Py Pz LqI LqF RmA WrA FlA DoA ToA PlA LawU LawS LawV LawI LawT LawW SpU TwB TwC QuB QuE SpV MkN NwA PlB Ct AlX PaA PaB PaC DpX Cu PdA PdB PdC PdD EvL EvS SnA PrA Nf Nr Ps
set_option linter.unusedVariables false
set_option linter.unusedSimpArgs false
variable {fa da ga ea : Option Addr} {c1 c2 c3 c4 : Nat} {B : List Bk} {K : List Int}

/-- A store that is ok lies there. -/
structure SO (w : World) (fa da : Option Addr) (B : List Bk) (K : List Int) : Prop where
  sat : SAt w fa B da K
  st : stB B K = true
theorem SO.l4 {w : World} (h : SO w fa da B K) : B.length = 4 := ok_len (st_parts h.st).1
theorem SO.l6 {w : World} (h : SO w fa da B K) : K.length = 6 := st_len h.st
theorem SO.pgs {w : World} (h : SO w fa da B K) : ∀ b ∈ B, b.ps.length ≤ 4 := fun b hb => by
  have := (ok_fours (st_parts h.st).1) b hb; omega
theorem SO.below {w w' : World} (h : SO w fa da B K) (b : Below w.heap.size w w') : SO w' fa da B K := ⟨h.sat.below b, h.st⟩
def NoPost (w : World) (e : Ending) (w' : World) : Prop := e = .returned (.tuple #[.agg #[.slice none 0 0, .slice none 0 0], .bool false]) ∧ Below w.heap.size w w'
def RunPost (w : World) (P : List Bk × List Int) (e : Ending) (w' : World) : Prop := ∃ fa c1 da c2, e = .returned (.tuple #[.agg #[.slice fa 4 c1, .slice da 6 c2], .bool true]) ∧ SO w' fa da P.1 P.2 ∧ Below w.heap.size w w'
def StPost (w : World) (P : List Bk × List Int) (e : Ending) (w' : World) : Prop := ∃ fa c1 da c2, e = .returned (.agg #[.slice fa 4 c1, .slice da 6 c2]) ∧ SO w' fa da P.1 P.2 ∧ Below w.heap.size w w'
theorem prNo {w w' : World} {L : List Ev} {e : Ending} (h60 : 60 < L.length) (h : PrPost w L e w') : NoPost w e w' := by
  obtain ⟨f1, n1, k1, f2, n2, k2, rfl, I, b⟩ := h
  have hd : decide (L.length ≤ 60) = false := decide_eq_false (by omega)
  rw [hd] at I ⊢
  rcases I with ⟨_, e1, e2⟩ | ⟨q, _⟩
  · rw [e1, e2]; exact ⟨rfl, b⟩
  · cases q
theorem prRun {w w' : World} {L : List Ev} {e : Ending} (h60 : L.length ≤ 60) (h : PrPost w L e w') : RunPost w (runP L) e w' := by
  obtain ⟨f1, n1, k1, f2, n2, k2, rfl, I, b⟩ := h
  have hd : decide (L.length ≤ 60) = true := decide_eq_true h60
  rw [hd] at I ⊢
  obtain ⟨g, d, c1, c2, e1, e2, h4, h6, hs⟩ := int_form I
  rw [e1, e2]
  exact ⟨_, _, _, _, rfl, ⟨hs, runP_st L⟩, b⟩
theorem iRunN {a : Option Addr} {cap : Nat} (L : List Ev) (w : World) (hL : EsAt w a L) (hok : ∀ x ∈ L, EvOk x) (hlen : L.length ≤ 1000) (h60 : 60 < L.length) :
    Calls Tryz.prog 36 #[.slice a L.length cap] w fun e w' => NoPost w e w' := (implRun_any a cap L w hL hok (by omega)).mono fun _ _ q => prNo h60 q
theorem sRunN {a : Option Addr} {cap : Nat} (L : List Ev) (w : World) (hL : EsAt w a L) (hlen : L.length ≤ 1000) (h60 : 60 < L.length) :
    Calls Tryz.prog 37 #[.slice a L.length cap] w fun e w' => NoPost w e w' := (specRun_any a cap L w hL (by omega)).mono fun _ _ q => prNo h60 q
theorem iRun {a : Option Addr} {cap : Nat} (L : List Ev) (w : World) (hL : EsAt w a L) (hok : ∀ x ∈ L, EvOk x) (h60 : L.length ≤ 60) :
    Calls Tryz.prog 36 #[.slice a L.length cap] w fun e w' => RunPost w (runP L) e w' := (implRun_any a cap L w hL hok (by omega)).mono fun _ _ q => prRun h60 q
theorem sRun {a : Option Addr} {cap : Nat} (L : List Ev) (w : World) (hL : EsAt w a L) (h60 : L.length ≤ 60) :
    Calls Tryz.prog 37 #[.slice a L.length cap] w fun e w' => RunPost w (runP L) e w' := (specRun_any a cap L w hL (by omega)).mono fun _ _ q => prRun h60 q
theorem doSt {w w' : World} {x : Ev} {e : Ending} (hs : stB B K = true) (h : DoPost w B K x e w') : StPost w (doP B K x) e w' := by
  obtain ⟨X, Y, rfl, I, b⟩ := h
  rw [hs] at I
  obtain ⟨g, d, c1, c2, e1, e2, h4, h6, hq⟩ := int_form I
  rw [e1, e2]
  exact ⟨_, _, _, _, rfl, ⟨hq, doP_st hs x⟩, b⟩
theorem iDo (x : Ev) (hx : EvOk x) (w : World) (h : SO w fa da B K) :
    Calls Tryz.prog 27 #[.agg #[.slice fa 4 c1, .slice da 6 c2], .agg #[.int .i64 x.k, .int .i64 x.a, .int .i64 x.b, .int .i64 x.c, .bool x.t]] w fun e w' => StPost w (doP B K x) e w' := by
  have h4 := h.l4
  have h6 := h.l6
  have := implDo_any x hx fa c1 B da c2 K w h.sat (by omega) (by omega)
  rw [h4, h6] at this
  exact this.mono fun _ _ q => doSt h.st q
theorem sDo (x : Ev) (w : World) (h : SO w fa da B K) :
    Calls Tryz.prog 28 #[.agg #[.slice fa 4 c1, .slice da 6 c2], .agg #[.int .i64 x.k, .int .i64 x.a, .int .i64 x.b, .int .i64 x.c, .bool x.t]] w fun e w' => StPost w (doP B K x) e w' := by
  have h4 := h.l4
  have h6 := h.l6
  have hp := h.pgs
  have := specDo_any x fa c1 B da c2 K w h.sat (by omega) (fun b hb => by have := hp b hb; omega) (by omega)
  rw [h4, h6] at this
  exact this.mono fun _ _ q => doSt h.st q
theorem lqEq (w : World) (h1 : SO w fa da B K) (h2 : SO w ga ea B K) :
    Calls Tryz.prog 23 #[.agg #[.slice fa 4 c1, .slice da 6 c2], .agg #[.slice ga 4 c3, .slice ea 6 c4]] w fun e w' => e = .returned (.bool true) ∧ Below w.heap.size w w' := by
  have h4 := h1.l4
  have h6 := h1.l6
  have hp := h1.pgs
  have := lqStore_any fa ga da ea c1 c3 c2 c4 B B K K w h1.sat.fs h2.sat.fs h1.sat.ds h2.sat.ds (by omega) (by omega) (fun b hb => by have := hp b hb; omega) (fun b hb => by have := hp b hb; omega) (by omega) (by omega)
  rw [h4, h6] at this
  refine this.mono ?_
  rintro e w' ⟨⟨r, rfl, hr⟩, b⟩
  rw [hr.2 ⟨rfl, rfl⟩]
  exact ⟨rfl, b⟩
theorem lqNil (w : World) :
    Calls Tryz.prog 23 #[.agg #[.slice none 0 0, .slice none 0 0], .agg #[.slice none 0 0, .slice none 0 0]] w fun e w' => e = .returned (.bool true) ∧ Below w.heap.size w w' := by
  have := lqStore_any none none none none 0 0 0 0 [] [] [] [] w (.inl rfl) (.inl rfl) (.inl rfl) (.inl rfl) (by simp) (by simp) (by simp) (by simp) (by simp) (by simp)
  refine this.mono ?_
  rintro e w' ⟨⟨r, rfl, hr⟩, b⟩
  rw [hr.2 ⟨rfl, rfl⟩]
  exact ⟨rfl, b⟩
theorem iAllO (w : World) (h : SO w fa da B K) :
    Calls Tryz.prog 30 #[.agg #[.slice fa 4 c1, .slice da 6 c2]] w fun e w' => ∃ p q, e = .returned (.slice p 6 q) ∧ DkAt w' p (alS B K) ∧ Below w.heap.size w w' := by
  have h4 := h.l4
  have h6 := h.l6
  have := iAll2 (fc := c1) (dc := c2) w h.sat (by omega) (by omega)
  rw [h4, h6] at this
  refine this.mono ?_
  rintro e w' ⟨p, q, rfl, hd, b⟩
  rw [al_len h.st]
  exact ⟨p, q, rfl, hd, b⟩
theorem iRdO (k : Int) (k1 : 1 ≤ k) (k6 : k ≤ 6) (w : World) (h : SO w fa da B K) :
    Calls Tryz.prog 38 #[.agg #[.slice fa 4 c1, .slice da 6 c2], .int .i64 k] w fun e w' => e = .returned (.int .i64 (readI B K k)) ∧ Below w.heap.size w w' := by
  have h4 := h.l4
  have h6 := h.l6
  have := iRead (fc := c1) (dc := c2) k w h.sat (by omega) (by omega)
  rw [h4, h6] at this
  have e : rdS B K k = readI B K k := by unfold rdS; rw [h.st, show inB k 1 6 = true by simp [inB]; omega]; rfl
  rwa [e] at this
theorem iDyO (w : World) (h : SO w fa da B K) (hc : Nf.Clean B) :
    Calls Tryz.prog 39 #[.agg #[.slice fa 4 c1, .slice da 6 c2]] w fun e w' => ∃ p q, e = .returned (.slice p 0 q) ∧ Below w.heap.size w w' := by
  have h4 := h.l4
  have h6 := h.l6
  have := iDirty2 (fc := c1) (dc := c2) w h.sat (by omega) (by omega)
  rw [h4, h6] at this
  refine this.mono ?_
  rintro e w' ⟨p, q, rfl, hd, b⟩
  rw [clean_dy hc]
  exact ⟨p, q, rfl, b⟩
theorem iOkO (w : World) (h : SO w fa da B K) :
    Calls Tryz.prog 24 #[.agg #[.slice fa 4 c1, .slice da 6 c2]] w fun e w' => e = .returned (.bool true) ∧ Below w.heap.size w w' := by
  have h4 := h.l4
  have h6 := h.l6
  have := iOk (fc := c1) (dc := c2) w h.sat (by omega) (by omega)
  rwa [h4, h6, h.st] at this
theorem lqIn (p q : Option Addr) (c1 c2 : Nat) (l : List Int) (hl : l.length = 6) (w : World) (h1 : DkAt w p l) (h2 : DkAt w q l) :
    Calls Tryz.prog 25 #[.slice p 6 c1, .slice q 6 c2] w fun e w' => e = .returned (.bool true) ∧ Below w.heap.size w w' := by
  have := lqSame p q c1 c2 l w h1 h2 (by omega)
  rwa [hl] at this
theorem iOrdO (w : World) (h : SO w fa da B K) :
    Calls Tryz.prog 40 #[.slice fa 4 c1] w fun e w' => e = .returned (.bool true) ∧ Below w.heap.size w w' := by
  have h4 := h.l4
  have := implOrder_any fa c1 B w h.sat.fs (by omega)
  have e : ordR B = true := (st_iff.1 h.st).1
  rwa [h4, e] at this
theorem iNextO (w : World) (h : SO w fa da B K) :
    Calls Tryz.prog 41 #[.slice fa 4 c1] w fun e w' => e = .returned (.int .i64 (mostB B + 1)) ∧ Below w.heap.size w w' := by
  have h4 := h.l4
  have := implNext_any fa c1 B w h.sat.fs (by omega)
  rwa [h4, (next_ok (st_parts h.st).1).1] at this

/-! The same, with where the store lies. -/
def RunI (w : World) (P : List Bk × List Int) (e : Ending) (w' : World) : Prop := ∃ fa c1 da c2, e = .returned (.tuple #[.agg #[.slice fa 4 c1, .slice da 6 c2], .bool true]) ∧ InT w' w.heap.size w'.heap.size (.slice fa 4 c1) (.slice da 6 c2) true P.1 P.2 ∧ Below w.heap.size w w'
def StI (w : World) (P : List Bk × List Int) (e : Ending) (w' : World) : Prop := ∃ fa c1 da c2, e = .returned (.agg #[.slice fa 4 c1, .slice da 6 c2]) ∧ InT w' w.heap.size w'.heap.size (.slice fa 4 c1) (.slice da 6 c2) true P.1 P.2 ∧ Below w.heap.size w w'
theorem so_of {w : World} {lo hi : Nat} (h : InT w lo hi (.slice fa 4 c1) (.slice da 6 c2) true B K) (hs : stB B K = true) : SO w fa da B K := ⟨sat_of h, hs⟩
theorem iRunI {a : Option Addr} {cap : Nat} (L : List Ev) (w : World) (hL : EsAt w a L) (hok : ∀ x ∈ L, EvOk x) (h60 : L.length ≤ 60) :
    Calls Tryz.prog 36 #[.slice a L.length cap] w fun e w' => RunI w (runP L) e w' := (implRun_any a cap L w hL hok (by omega)).mono fun e w' h => by
  obtain ⟨f1, n1, k1, f2, n2, k2, rfl, I, b⟩ := h
  have hd : decide (L.length ≤ 60) = true := decide_eq_true h60
  rw [hd] at I ⊢
  obtain ⟨g, d, c1, c2, e1, e2, h4, h6, hs⟩ := int_form I
  rw [e1, e2] at I ⊢
  exact ⟨_, _, _, _, rfl, I, b⟩
theorem iDoI (x : Ev) (hx : EvOk x) (w : World) (h : SO w fa da B K) :
    Calls Tryz.prog 27 #[.agg #[.slice fa 4 c1, .slice da 6 c2], .agg #[.int .i64 x.k, .int .i64 x.a, .int .i64 x.b, .int .i64 x.c, .bool x.t]] w fun e w' => StI w (doP B K x) e w' := by
  have h4 := h.l4
  have h6 := h.l6
  have := implDo_any x hx fa c1 B da c2 K w h.sat (by omega) (by omega)
  rw [h4, h6] at this
  refine this.mono fun e w' q => ?_
  obtain ⟨X, Y, rfl, I, b⟩ := q
  rw [h.st] at I
  obtain ⟨g, d, c1, c2, e1, e2, h4, h6, hq⟩ := int_form I
  rw [e1, e2] at I ⊢
  exact ⟨_, _, _, _, rfl, I, b⟩
/-- An event that changes nothing. -/
theorem do_none {x : Ev} (h4 : x.k ≠ 4) (he : evP B K x = []) : doP B K x = (B, K) := by
  unfold doP
  rw [if_neg h4]
  by_cases hc : x.c < 0
  · rw [if_pos hc]
  rw [if_neg hc, he]
  show (toB B [] x.c x.t, toK K [] x.c x.t) = (B, K)
  rw [(to_nil (bs := B) (dk := K) _ x.t).1, (to_nil (bs := B) (dk := K) _ x.t).2]
theorem do_zero {x : Ev} (h4 : x.k ≠ 4) (hc : x.c = 0) (ht : x.t = false) : doP B K x = (B, K) := by
  unfold doP
  rw [if_neg h4, if_neg (by omega), hc, ht]
  have hf : ∀ L, fell L 0 false = false := fun L => rfl
  unfold toB toK
  rw [hf]
  rfl
theorem put_none {k a v : Int} (h : inB a 1 6 = false ∨ inB v 0 9 = false) : writeP B k a v = [] := by
  unfold writeP
  have : recB k (mostB B + 1) a v = false := by
    unfold recB numB
    rcases h with h | h <;> rw [h] <;> simp
  rw [this]; simp
theorem iSame (x : Ev) (hx : EvOk x) (hd : doP B K x = (B, K)) (w : World) (h : SO w fa da B K) :
    Calls Tryz.prog 27 #[.agg #[.slice fa 4 c1, .slice da 6 c2], .agg #[.int .i64 x.k, .int .i64 x.a, .int .i64 x.b, .int .i64 x.c, .bool x.t]] w fun e w' => StPost w (B, K) e w' := by
  have := iDo (c1 := c1) (c2 := c2) x hx w h
  rwa [hd] at this
end Go.Proofs.YtbiokmojjneleaaGreat.Rw

/-
  What is drawn of plays: events; a store and an event.
-/
namespace Go.Proofs.YtbiokmojjneleaaGreat.PyE
open Go.ChangeShapes Go.WideShapes Go.ChangeAt Go.RowKit Go.Shelf Big Fl ImplF ImplL Kp StA RmA DoA AlA DpA NwA Pick Draw EvA ImplB ImplS ImplU SpecC SpecD SpecW ImplW PyA FlB ClA DrB StB StG StN Fu DrF PaA EvL EvS
set_option linter.unusedVariables false
set_option linter.unusedSimpArgs false
attribute [local go_sem ↓] Go.wp_at_zero Go.wp_at_succ

def e5Ev (x : Ev5) : Ev := ⟨x.1, x.2.1, x.2.2.1, x.2.2.2.1, x.2.2.2.2⟩
def EvIn (x : Ev) : Prop := 1 ≤ x.k ∧ x.k ≤ 4 ∧ 1 ≤ x.a ∧ x.a ≤ 6 ∧ 0 ≤ x.b ∧ x.b ≤ 9 ∧ 0 ≤ x.c ∧ x.c ≤ 9
theorem EvIn.ok {x : Ev} (h : EvIn x) : EvOk x := by unfold EvIn at h; unfold EvOk; omega
theorem esC_map (l : List Ev5) : esC (l.map e5Ev) = e5sC l := by
  unfold esC e5sC
  rw [List.flatMap_map]
  rfl
theorem Evs.sl {w : World} {lo : Nat} {v : Value} {n : Nat} {cs : List Value} (h : Evs w lo v n cs) : ∃ a c, v = .slice a n c ∧ ((a = none ∧ c = 0 ∧ n = 0) ∨ ∃ g, a = some ⟨g, 0, none⟩ ∧ lo ≤ g ∧ g < w.heap.size ∧ n ≤ c ∧ c ≤ maxLen) := by
  obtain ⟨_, h2⟩ := h.row
  rcases h2 with ⟨e, hn⟩ | ⟨g, cap, cur, e, hb, hh, h3, h4, _⟩
  · exact ⟨none, 0, by rw [e, hn], .inl ⟨rfl, rfl, hn⟩⟩
  · have hg := h.lt g (by rw [e]; rfl)
    exact ⟨_, cap, e, .inr ⟨g, rfl, hg.1, hg.2, h3, h4⟩⟩
theorem Evs.es {w : World} {lo : Nat} {a : Option Addr} {n c : Nat} {l : List Ev5} (h : Evs w lo (.slice a n c) n (e5sC l)) (hl : l.length = n) : EsAt w a (l.map e5Ev) := by
  obtain ⟨_, h2⟩ := h.row
  rcases h2 with ⟨e, hn⟩ | ⟨g, cap, cur, e, hb, hh, h3, h4, _⟩
  · exact .inl (by rw [List.map_eq_nil_iff]; exact List.eq_nil_of_length_eq_zero (by omega))
  · cases e
    refine .inr ⟨g, 0, rfl, fun j u hu => ?_⟩
    rw [esC_map] at hu
    have := h.row.cells rfl j u hu
    rw [Addr.add_lit] at this; exact this
/-- A list of events that is drawn. -/
def DrPost (w : World) (e : Ending) (w' : World) : Prop := ∃ a c L, e = .returned (.slice a (L : List Ev).length c) ∧ EsAt w' a L ∧ (L.length ≤ 57 ∨ L.length = 61) ∧ (∀ x ∈ L, EvIn x) ∧ ((a = none ∧ c = 0 ∧ L.length = 0) ∨ ∃ g, a = some ⟨g, 0, none⟩ ∧ w.heap.size ≤ g ∧ g < w'.heap.size ∧ L.length ≤ c ∧ c ≤ maxLen) ∧ Below w.heap.size w w'
theorem drPost {w w' : World} {lo : Nat} {a : Option Addr} {m c : Nat} {l : List Ev5} (hlo : w.heap.size ≤ lo) (h : Evs w' lo (.slice a m c) m (e5sC l)) (hl : E5s l m) (hm : m ≤ 57 ∨ m = 61) (b : Below w.heap.size w w') : DrPost w (.returned (.slice a m c)) w' := by
  obtain ⟨a', c', e, hac⟩ := Evs.sl h
  cases e
  have hlen : (l.map e5Ev).length = m := by rw [List.length_map]; exact hl.1
  refine ⟨a, c, l.map e5Ev, by rw [hlen], Evs.es h hl.1, by rw [hlen]; exact hm, fun x hx => ?_, ?_, b⟩
  · obtain ⟨y, hy, rfl⟩ := List.mem_map.1 hx
    exact hl.2 y hy
  · rw [hlen]
    rcases hac with h | ⟨g, h1, h2, h3, h4, h5⟩
    · exact .inl h
    · exact .inr ⟨g, h1, by omega, h3, h4, h5⟩
def lenOf : Value → Nat | .slice _ n _ => n | _ => 0

set_option maxRecDepth 100000 in
set_option maxHeartbeats 4000000 in
theorem drawRun_any (w : World) (a : Option Addr) (len cap : Nat) (zs : List Int) (h : IsRow .u8 w a len cap zs) :
    Calls Tryz.prog 35 #[.slice a len cap] w fun e w' => DrPost w e w' := by
  have HO := hide (open_any w a len cap zs h)
  obtain ⟨iE, hiE, hzE, hsE, hbE⟩ := infoE
  clear h
  go_enter Tryz.func35, Tryz.ntmps35
  go_wp2_with fail
  refine (unhide HO).mono ?_
  rintro e w1 ⟨rfl, len', hl', hrow, d1⟩
  have hlt := d1.lt
  clear HO
  go_wp2_with fail
  refine (playD_any w w w1 w.heap.size a len' cap 0 hrow hl' d1 (by omega) (by omega)).mono ?_
  rintro e w2 ⟨ev, g, d, G, c, B, D, p', m, l, rfl, hB, S2, hp0, hp1, d2, k2, hc4, V2, hm, hL⟩
  have HL := hide hL
  have bA : Below w2.heap.size w2 (w2.alloc (.cells #[.slice (some ⟨g, 0, none⟩) 4 c, .slice (some ⟨d, 0, none⟩) 6 6] 26)) := (Below.refl _ _).alloc (Nat.le_refl _) _
  have d3 := rd_kept d2 (L := []) (Kept.of bA) (by simp)
  have V3 := V2.kept (L := []) (Kept.of bA) (by simp)
  have l2 := k2.size
  have l3 := bA.size
  clear hB S2 hc4 hL bA V2 d2 d1 k2
  go_upto_region 3 with fail
  generalize w2.alloc (.cells #[.slice (some ⟨g, 0, none⟩) 4 c, .slice (some ⟨d, 0, none⟩) 6 6] 26) = w3 at *
  go_wp2_with fail
  refine (pick_k w w w3 w.heap.size a len' cap p' 40 hrow hl' d3 (by omega) (by omega) (by omega) (by omega)).mono ?_
  rintro e w4 ⟨r, rfl, r0, r1, d4, m4⟩
  have V4 := V3.kept m4 (by simp; omega)
  have l4 : w1.heap.size ≤ w4.heap.size := by have := m4.size; omega
  clear d3 V3 m4
  obtain ⟨va, vc, rfl, _⟩ := Evs.sl V4
  by_cases h0 : r = 0
  · subst h0
    go_wp2
    go_loopw [4] (fun v w' => ∃ (m : Nat) (l : List Ev5) (pp : Int) (va : Option Addr) (vc : Nat), v = .slice va m vc ∧ m ≤ 61 ∧ 0 ≤ pp ∧ pp + 8 * (61 - (m : Int)) ≤ 1500 ∧ Evs w' w1.heap.size (.slice va m vc) m (e5sC l) ∧ Hid (E5s l m) ∧ Rd w w w.heap.size a len' cap pp w' ∧ w1.heap.size ≤ w'.heap.size) (fun v _ => 61 - lenOf v)
    case atStart => exact ⟨m, l, p' + 1, va, vc, rfl, by omega, by omega, by omega, V4, HL, d4, l4⟩
    case round =>
      clear V4 HL d4
      obtain ⟨m, l, pp, va, vc, rfl, hm, hp0, hp1, V, HL, dr, lr⟩ := hrel
      have hlw := dr.lt
      by_cases h61 : m = 61
      · subst h61
        have b9 := dr.bel
        go_wp2
        go_ret
        exact drPost (Nat.le_of_lt hlt) V (unhide HL) (.inr rfl) b9
      · have hm60 : (m : Int) ≤ 60 := by omega
        go_wp2_with fail
        generalize (.slice va m vc : Value) = sv at *
        refine (eventD_any w w wr w.heap.size a len' cap pp hrow hl' dr (by omega) (by omega)).mono ?_
        rintro e w6 ⟨kind, x, b, cc, torn, pp', rfl, hq1, hq2, d6, m6, g1, g2, g3, g4, g5, g6, g7, g8⟩
        have HL' : Hid (E5s (l ++ [(kind, x, b, cc, torn)]) (m + 1)) := (unhide HL).push (x := (kind, x, b, cc, torn)) ⟨g1, g2, g3, g4, g5, g6, g7, g8⟩
        clear g1 g2 g3 g4 g5 g6 g7 g8
        have V6 := V.kept m6 (by simp; omega)
        have l6 := m6.size
        clear V dr m6 HL
        have bB : Below w6.heap.size w6 (w6.alloc (.cells #[.int .i64 kind, .int .i64 x, .int .i64 b, .int .i64 cc, .bool torn] 42)) := (Below.refl _ _).alloc (Nat.le_refl _) _
        have V7 := V6.kept (L := []) (Kept.of bB) (by simp)
        have d7 := rd_kept d6 (L := []) (Kept.of bB) (by simp)
        have nw := CsAt.new w6 [.int .i64 kind, .int .i64 x, .int .i64 b, .int .i64 cc, .bool torn] 42
        have hnw := src_mid nw.cells
        have hR7 := V7.row
        have hone := PyA.one_ev kind x b cc torn
        have hown : ∀ y ∈ (Value.ownBlock sv).toList, w1.heap.size ≤ y ∧ y < w6.heap.size := fun y hy => V6.lt y (by simpa using hy)
        have l7 := bB.size
        clear nw V6 d6
        go_wp2_with (refine wpList_append_own _ rfl _ _ 49 rfl w1.heap.size 42 iE (.agg #[.int .i64 0, .int .i64 0, .int .i64 0, .int .i64 0, .bool false]) 5 40 Tryz.underlying49 hiE hzE hsE hbE rfl (by omega) _ m (e5sC l) rfl hR7 ⟨w6.heap.size, 0, none⟩ 1 1 [.int .i64 kind, .int .i64 x, .int .i64 b, .int .i64 cc, .bool torn] rfl rfl hnw hone (by simp [maxLen]; omega) (by omega) (by omega) ?_; intro v' w9 ho9 hg9 _)
        obtain ⟨V9, b9⟩ := V7.push (by omega) ho9 hg9
        rw [← show e5sC (l ++ [(kind, x, b, cc, torn)]) = e5sC l ++ [.int .i64 kind, .int .i64 x, .int .i64 b, .int .i64 cc, .bool torn] from e5sC_push _ _] at V9
        have kg : Kept (Value.ownBlock sv).toList (w6.alloc (.cells #[.int .i64 kind, .int .i64 x, .int .i64 b, .int .i64 cc, .bool torn] 42)) w9 := (Kept.refl _ _).grown hg9 (fun k e => .inl (by simp; exact e))
        have d9 := rd_kept d7 kg (fun y hy => by have := hown y hy; omega)
        clear V7 d7 hR7 hnw ho9 hg9 kg hown hone bB
        obtain ⟨va', vc', rfl, _⟩ := Evs.sl V9
        go_wp2
        go_roundw
        case rel => exact ⟨m + 1, _, pp', va', vc', rfl, by omega, by omega, by omega, V9, HL', d9, by have := b9.size; omega⟩
        case measure => simp [lenOf]; omega
  · have e0 : (r == 0) = false := by simpa using h0
    have b9 := d4.bel
    go_wp2
    go_ret
    exact drPost (Nat.le_of_lt hlt) V4 (unhide HL) (.inl hm) b9
end Go.Proofs.YtbiokmojjneleaaGreat.PyE
