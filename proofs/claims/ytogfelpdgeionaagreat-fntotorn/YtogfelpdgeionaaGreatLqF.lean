/-
  The laws' own comparing of pages, blocks and stores: it says true of the same only.
-/
import Derived.Test.YtogfelpdgeionaaGreatHaI
import Derived.Test.YtogfelpdgeionaaGreatHbS
import Derived.Test.YtogfelpdgeionaaGreatHaA
import Derived.Test.YtogfelpdgeionaaGreatHbE
namespace Go.Proofs.YtogfelpdgeionaaGreat.LqF
open Go.ChangeShapes Go.WideShapes Go.ChangeAt Go.RowKit OkA Big Fl ImplB ImplF ImplS _root_.Go.Proofs.YtogfelpdgeionaaGreat.Own ImplT ImplU SpecA SpecB LawsA LawsB LawsE StA StB LqI Kp Pl ImplW ImplL RmA NwA SpecL DoA
set_option linter.unusedVariables false
set_option linter.unusedSimpArgs false
attribute [local go_sem ↓] Go.wp_at_zero Go.wp_at_succ

theorem size_pgq (p : Pg) : (Tryz.prog.info? 102).map (·.size) = some (pgC p).length := by rw [len_pgC]; kernel_rfl
theorem pg_ext {p q : Pg} (h1 : p.st = q.st) (h2 : p.k = q.k) (h3 : p.s = q.s) (h4 : p.a = q.a) (h5 : p.v = q.v) : p = q := by
  cases p; cases q; simp at h1 h2 h3 h4 h5; simp [h1, h2, h3, h4, h5]

set_option maxHeartbeats 2000000 in
theorem lqPages_any (a1 a2 : Option Addr) (cap1 cap2 : Nat) (ps qs : List Pg) (w : World) (h1 : PsAt w a1 ps) (h2 : PsAt w a2 qs) (hl : ps.length ≤ 1048576) (hl2 : qs.length ≤ 1048576) :
    Calls Tryz.prog 184 #[.slice a1 ps.length cap1, .slice a2 qs.length cap2] w fun e w' => (∃ r, e = .returned (.bool r) ∧ (r = true ↔ ps = qs)) ∧ Below w.heap.size w w' := by
  have H1 := hide h1
  have H2 := hide h2
  clear h1 h2
  generalize hn : ps.length = n at *
  generalize hm : qs.length = m at *
  have HN := hide hn
  have HM := hide hm
  clear hn hm
  have hli : (n : Int) ≤ 1048576 := by omega
  have hmi : (m : Int) ≤ 1048576 := by omega
  go_enter Tryz.func184, Tryz.ntmps184
  by_cases hnm : n = m
  · subst hnm
    go_wp2
    go_loopw [5] (fun i w' => ∃ k : Nat, k ≤ n ∧ i = .int .i64 k ∧ Hid (∀ j (h : j < ps.length) (h' : j < qs.length), j < k → ps[j] = qs[j]) ∧ Below w.heap.size w w') (fun i _ => n - (intOf i).toNat)
    case atStart => exact ⟨0, by omega, rfl, (fun j _ _ hj => by omega), Below.refl _ _⟩
    case round =>
      obtain ⟨k, hk, rfl, HI, bw⟩ := hrel
      by_cases h0 : k = n
      · subst h0
        have HR : Hid (ps = qs) := List.ext_getElem (by have := unhide HN; have := unhide HM; omega) fun j q1 q2 => unhide HI j q1 q2 (by have := unhide HN; omega)
        clear HI
        go_wp2
        go_ret
        exact ⟨⟨true, rfl, fun _ => unhide HR, fun _ => rfl⟩, bw⟩
      · have hlt : (k : Int) < (n : Int) := by omega
        have hkb : k < ps.length := by have := unhide HN; omega
        have hkc : k < qs.length := by have := unhide HM; omega
        have hlo : (0 : Int) ≤ (k : Int) := by omega
        obtain ⟨b1, o1, rfl, g1⟩ : ∃ b o, a1 = some ⟨b, o, none⟩ ∧ wr.rangeAt b o (psC ps) := by
          rcases (unhide H1).below bw with rfl | h
          · simp at hkb
          · exact h
        obtain ⟨b2, o2, rfl, g2⟩ : ∃ b o, a2 = some ⟨b, o, none⟩ ∧ wr.rangeAt b o (psC qs) := by
          rcases (unhide H2).below bw with rfl | h
          · simp at hkc
          · exact h
        have x1 := range_pg g1 k hkb
        have x2 := range_pg g2 k hkc
        have HI2 : Hid (ps[k] = qs[k] → ∀ j (h : j < ps.length) (h' : j < qs.length), j < k + 1 → ps[j] = qs[j]) := fun e j h h' hj => by
          by_cases q : j = k
          · subst q; exact e
          · exact unhide HI j h h' (by omega)
        have HNE : Hid (ps = qs → ps[k] = qs[k]) := fun e => by subst e; rfl
        clear g1 g2 HI
        generalize ps[k] = p at *
        generalize qs[k] = q at *
        have HS1 := hide (size_pgq p)
        have HS2 := hide (size_pgq q)
        by_cases hpq : p = q
        · have HI3 := hide (unhide HI2 hpq)
          subst hpq
          go_wp2_with fail
          refine wp_region_noPanic ?_
          refine wp_region_held_drew (S := fun w' => w'.rangeAt b1 (o1 + k * 5) (pgC p) ∧ w'.rangeAt b2 (o2 + k * 5) (pgC p)) (by kernel_rfl) (⟨by simpa using x1, by simpa using x2⟩) (fun hHeld => ?_)
          refine takeL 0 (.slice (some ⟨b1, o1, none⟩) n cap1) rfl (by kernel_rfl) (by kernel_rfl) (by kernel_rfl) (fun _ _ _ h => h) (Or.inl ⟨rfl, fun _ _ => rfl⟩) hHeld ?_
          try simp only [Act.put, List.setIfInBounds_toArray, List.set_cons_zero, List.set_cons_succ]
          refine takeL 1 (.int .i64 k) rfl (by kernel_rfl) (by kernel_rfl) (by kernel_rfl) (fun _ _ _ h => h) (Or.inl ⟨rfl, fun _ _ => rfl⟩) hHeld ?_
          try simp only [Act.put, List.setIfInBounds_toArray, List.set_cons_zero, List.set_cons_succ]
          refine takeL 2 (.pointer (some ⟨b1, o1 + k * 5, none⟩)) rfl (by kernel_rfl) (by kernel_rfl) (by kernel_rfl) (fun _ _ _ h => h) (Or.inl ⟨rfl, fun w9 hSw => by go_simp⟩) hHeld ?_
          try simp only [Act.put, List.setIfInBounds_toArray, List.set_cons_zero, List.set_cons_succ]
          refine takeL 3 (.agg #[.int .i64 p.st, .int .i64 p.k, .int .i64 p.s, .int .i64 p.a, .int .i64 p.v]) rfl (by kernel_rfl) (by kernel_rfl) (by kernel_rfl) (fun _ _ _ h => h) (yieldsIf_load_mid rfl 102 _ rfl b1 (o1 + k * 5) rfl (pgC p) _ (fun _ h => h.1) Tryz.underlying102 rfl (unhide HS1)) hHeld ?_
          try simp only [Act.put, List.setIfInBounds_toArray, List.set_cons_zero, List.set_cons_succ]
          refine takeL 4 (.slice (some ⟨b2, o2, none⟩) n cap2) rfl (by kernel_rfl) (by kernel_rfl) (by kernel_rfl) (fun _ _ _ h => h) (Or.inl ⟨rfl, fun _ _ => rfl⟩) hHeld ?_
          try simp only [Act.put, List.setIfInBounds_toArray, List.set_cons_zero, List.set_cons_succ]
          refine takeL 5 (.int .i64 k) rfl (by kernel_rfl) (by kernel_rfl) (by kernel_rfl) (fun _ _ _ h => h) (Or.inl ⟨rfl, fun _ _ => rfl⟩) hHeld ?_
          try simp only [Act.put, List.setIfInBounds_toArray, List.set_cons_zero, List.set_cons_succ]
          refine takeL 6 (.pointer (some ⟨b2, o2 + k * 5, none⟩)) rfl (by kernel_rfl) (by kernel_rfl) (by kernel_rfl) (fun _ _ _ h => h) (Or.inl ⟨rfl, fun w9 hSw => by go_simp⟩) hHeld ?_
          try simp only [Act.put, List.setIfInBounds_toArray, List.set_cons_zero, List.set_cons_succ]
          refine takeL 7 (.agg #[.int .i64 p.st, .int .i64 p.k, .int .i64 p.s, .int .i64 p.a, .int .i64 p.v]) rfl (by kernel_rfl) (by kernel_rfl) (by kernel_rfl) (fun _ _ _ h => h) (yieldsIf_load_mid rfl 102 _ rfl b2 (o2 + k * 5) rfl (pgC p) _ (fun _ h => h.2) Tryz.underlying102 rfl (unhide HS2)) hHeld ?_
          try simp only [Act.put, List.setIfInBounds_toArray, List.set_cons_zero, List.set_cons_succ]
          refine takeL 8 (.bool false) rfl (by kernel_rfl) (by kernel_rfl) (by kernel_rfl) (fun _ _ _ h => h) (Or.inl ⟨rfl, fun w9 hSw => by go_simp⟩) hHeld ?_
          try simp only [Act.put, List.setIfInBounds_toArray, List.set_cons_zero, List.set_cons_succ]
          refine wpAnyH_done (by kernel_rfl) ?_ _
          refine NoPanic.normal ?_
          clear hHeld x1 x2
          go_wp2
          go_roundw
          case rel => exact ⟨k + 1, by omega, by first | rfl | go_num, unhide HI3, bw.drew⟩
          case measure => simp [intOf]; omega
        · clear HI2
          go_wp2_with fail
          refine wp_region_noPanic ?_
          refine wp_region_held_drew (S := fun w' => w'.rangeAt b1 (o1 + k * 5) (pgC p) ∧ w'.rangeAt b2 (o2 + k * 5) (pgC q)) (by kernel_rfl) (⟨by simpa using x1, by simpa using x2⟩) (fun hHeld => ?_)
          refine takeL 0 (.slice (some ⟨b1, o1, none⟩) n cap1) rfl (by kernel_rfl) (by kernel_rfl) (by kernel_rfl) (fun _ _ _ h => h) (Or.inl ⟨rfl, fun _ _ => rfl⟩) hHeld ?_
          try simp only [Act.put, List.setIfInBounds_toArray, List.set_cons_zero, List.set_cons_succ]
          refine takeL 1 (.int .i64 k) rfl (by kernel_rfl) (by kernel_rfl) (by kernel_rfl) (fun _ _ _ h => h) (Or.inl ⟨rfl, fun _ _ => rfl⟩) hHeld ?_
          try simp only [Act.put, List.setIfInBounds_toArray, List.set_cons_zero, List.set_cons_succ]
          refine takeL 2 (.pointer (some ⟨b1, o1 + k * 5, none⟩)) rfl (by kernel_rfl) (by kernel_rfl) (by kernel_rfl) (fun _ _ _ h => h) (Or.inl ⟨rfl, fun w9 hSw => by go_simp⟩) hHeld ?_
          try simp only [Act.put, List.setIfInBounds_toArray, List.set_cons_zero, List.set_cons_succ]
          refine takeL 3 (.agg #[.int .i64 p.st, .int .i64 p.k, .int .i64 p.s, .int .i64 p.a, .int .i64 p.v]) rfl (by kernel_rfl) (by kernel_rfl) (by kernel_rfl) (fun _ _ _ h => h) (yieldsIf_load_mid rfl 102 _ rfl b1 (o1 + k * 5) rfl (pgC p) _ (fun _ h => h.1) Tryz.underlying102 rfl (unhide HS1)) hHeld ?_
          try simp only [Act.put, List.setIfInBounds_toArray, List.set_cons_zero, List.set_cons_succ]
          refine takeL 4 (.slice (some ⟨b2, o2, none⟩) n cap2) rfl (by kernel_rfl) (by kernel_rfl) (by kernel_rfl) (fun _ _ _ h => h) (Or.inl ⟨rfl, fun _ _ => rfl⟩) hHeld ?_
          try simp only [Act.put, List.setIfInBounds_toArray, List.set_cons_zero, List.set_cons_succ]
          refine takeL 5 (.int .i64 k) rfl (by kernel_rfl) (by kernel_rfl) (by kernel_rfl) (fun _ _ _ h => h) (Or.inl ⟨rfl, fun _ _ => rfl⟩) hHeld ?_
          try simp only [Act.put, List.setIfInBounds_toArray, List.set_cons_zero, List.set_cons_succ]
          refine takeL 6 (.pointer (some ⟨b2, o2 + k * 5, none⟩)) rfl (by kernel_rfl) (by kernel_rfl) (by kernel_rfl) (fun _ _ _ h => h) (Or.inl ⟨rfl, fun w9 hSw => by go_simp⟩) hHeld ?_
          try simp only [Act.put, List.setIfInBounds_toArray, List.set_cons_zero, List.set_cons_succ]
          refine takeL 7 (.agg #[.int .i64 q.st, .int .i64 q.k, .int .i64 q.s, .int .i64 q.a, .int .i64 q.v]) rfl (by kernel_rfl) (by kernel_rfl) (by kernel_rfl) (fun _ _ _ h => h) (yieldsIf_load_mid rfl 102 _ rfl b2 (o2 + k * 5) rfl (pgC q) _ (fun _ h => h.2) Tryz.underlying102 rfl (unhide HS2)) hHeld ?_
          try simp only [Act.put, List.setIfInBounds_toArray, List.set_cons_zero, List.set_cons_succ]
          refine takeL 8 (.bool true) rfl (by kernel_rfl) (by kernel_rfl) (by kernel_rfl) (fun _ _ _ h => h) (Or.inl ⟨rfl, fun w9 hSw => by go_simp; exact fun e1 e2 e3 e4 e5 => hpq (pg_ext e1 e2 e3 e4 e5)⟩) hHeld ?_
          try simp only [Act.put, List.setIfInBounds_toArray, List.set_cons_zero, List.set_cons_succ]
          refine wpAnyH_done (by kernel_rfl) ?_ _
          refine NoPanic.normal ?_
          clear hHeld x1 x2
          go_wp2
          go_ret
          exact ⟨⟨false, rfl, (fun h => by cases h), fun e => absurd (unhide HNE e) hpq⟩, bw.drew⟩
  · have hni : ¬ (n : Int) = (m : Int) := by omega
    go_wp2
    go_ret
    exact ⟨⟨false, rfl, (fun h => by cases h), fun e => absurd (by have := unhide HN; have := unhide HM; rw [e] at *; omega) hnm⟩, Below.refl _ _⟩

theorem bk_ext {b c : Bk} (h1 : b.ps = c.ps) (h2 : b.wn = c.wn) : b = c := by cases b; cases c; simp at h1 h2; simp [h1, h2]
set_option maxHeartbeats 2000000 in
theorem lqFlash_any (a1 a2 : Option Addr) (cap1 cap2 : Nat) (bs cs : List Bk) (w : World) (h1 : FsAt w a1 bs) (h2 : FsAt w a2 cs) (hl : bs.length ≤ 1048576) (hl2 : cs.length ≤ 1048576) (hp : ∀ b ∈ bs, b.ps.length ≤ 1048576) (hp2 : ∀ b ∈ cs, b.ps.length ≤ 1048576) :
    Calls Tryz.prog 119 #[.slice a1 bs.length cap1, .slice a2 cs.length cap2] w fun e w' => (∃ r, e = .returned (.bool r) ∧ (r = true ↔ bs = cs)) ∧ Below w.heap.size w w' := by
  have H1 := hide h1
  have H2 := hide h2
  have HP := hide hp
  have HP2 := hide hp2
  clear h1 h2 hp hp2
  generalize hn : bs.length = n at *
  generalize hm : cs.length = m at *
  have HN := hide hn
  have HM := hide hm
  clear hn hm
  have hli : (n : Int) ≤ 1048576 := by omega
  have hmi : (m : Int) ≤ 1048576 := by omega
  go_enter Tryz.func119, Tryz.ntmps119
  by_cases hnm : n = m
  · subst hnm
    go_wp2
    go_loopw [5] (fun i w' => ∃ k : Nat, k ≤ n ∧ i = .int .i64 k ∧ Hid (∀ j (h : j < bs.length) (h' : j < cs.length), j < k → bs[j] = cs[j]) ∧ Below w.heap.size w w') (fun i _ => n - (intOf i).toNat)
    case atStart => exact ⟨0, by omega, rfl, (fun j _ _ hj => by omega), Below.refl _ _⟩
    case round =>
      obtain ⟨k, hk, rfl, HI, bw⟩ := hrel
      by_cases h0 : k = n
      · subst h0
        have HR : Hid (bs = cs) := List.ext_getElem (by have := unhide HN; have := unhide HM; omega) fun j q1 q2 => unhide HI j q1 q2 (by have := unhide HN; omega)
        clear HI
        go_wp2
        go_ret
        exact ⟨⟨true, rfl, fun _ => unhide HR, fun _ => rfl⟩, bw⟩
      · have hlt : (k : Int) < (n : Int) := by omega
        have hkb : k < bs.length := by have := unhide HN; omega
        have hkc : k < cs.length := by have := unhide HM; omega
        have hlo : (0 : Int) ≤ (k : Int) := by omega
        obtain ⟨b1, o1, rfl, g1⟩ : ∃ b o, a1 = some ⟨b, o, none⟩ ∧ ∀ i (hi : i < bs.length), BkAt wr b (o + i * 2) bs[i] := by
          rcases (unhide H1).below bw with rfl | h
          · simp at hkb
          · exact h
        obtain ⟨b2, o2, rfl, g2⟩ : ∃ b o, a2 = some ⟨b, o, none⟩ ∧ ∀ i (hi : i < cs.length), BkAt wr b (o + i * 2) cs[i] := by
          rcases (unhide H2).below bw with rfl | h
          · simp at hkc
          · exact h
        obtain ⟨p1, c1, d0, d1, q1⟩ := g1 k hkb
        obtain ⟨p2, c2, e0, e1, q2⟩ := g2 k hkc
        have l1 : b1 < wr.heap.size := by have := cell_lt d0; simpa using this
        have l2 : b2 < wr.heap.size := by have := cell_lt e0; simpa using this
        have HC := hide (fun (w : World) (h : PsAt w p1 bs[k].ps) (h' : PsAt w p2 cs[k].ps) => lqPages_any p1 p2 c1 c2 bs[k].ps cs[k].ps w h h' (unhide HP _ (List.getElem_mem hkb)) (unhide HP2 _ (List.getElem_mem hkc)))
        have HI2 : Hid (bs[k] = cs[k] → ∀ j (h : j < bs.length) (h' : j < cs.length), j < k + 1 → bs[j] = cs[j]) := fun e j h h' hj => by
          by_cases q : j = k
          · subst q; exact e
          · exact unhide HI j h h' (by omega)
        have HNE : Hid (bs = cs → bs[k] = cs[k]) := fun e => by subst e; rfl
        clear g1 g2 HI
        generalize bs[k] = b at *
        generalize cs[k] = c at *
        by_cases hw : b.wn = c.wn
        · have hwb : (b.wn == c.wn) = true := by simpa using hw
          go_wp2_with fail
          refine wp_region_noPanic ?_
          refine wp_region_held_drew (S := fun w' => Kept [] wr w') (by kernel_rfl) (Kept.refl _ _).drew (fun hHeld => ?_)
          generalize wr.drew = y0 at *
          have z0 := hHeld.size
          refine takeL 0 (.slice (some ⟨b1, o1, none⟩) n cap1) rfl (by kernel_rfl) (by kernel_rfl) (by kernel_rfl) (fun _ _ _ h => h) (Or.inl ⟨rfl, fun _ _ => rfl⟩) hHeld ?_
          try simp only [Act.put, List.setIfInBounds_toArray, List.set_cons_zero, List.set_cons_succ]
          refine takeL 1 (.int .i64 (k : Int)) rfl (by kernel_rfl) (by kernel_rfl) (by kernel_rfl) (fun _ _ _ h => h) (Or.inl ⟨rfl, fun _ _ => rfl⟩) hHeld ?_
          try simp only [Act.put, List.setIfInBounds_toArray, List.set_cons_zero, List.set_cons_succ]
          refine takeL 2 (.pointer (some ⟨b1, o1 + k * 2, none⟩)) rfl (by kernel_rfl) (by kernel_rfl) (by kernel_rfl) (fun _ _ _ h => h) (Or.inl ⟨rfl, fun w9 hSw => by go_simp⟩) hHeld ?_
          try simp only [Act.put, List.setIfInBounds_toArray, List.set_cons_zero, List.set_cons_succ]
          refine takeL 3 (.pointer (some ⟨b1, o1 + k * 2 + 1, none⟩)) rfl (by kernel_rfl) (by kernel_rfl) (by kernel_rfl) (fun _ _ _ h => h) (Or.inl ⟨rfl, fun w9 hSw => by go_simp⟩) hHeld ?_
          try simp only [Act.put, List.setIfInBounds_toArray, List.set_cons_zero, List.set_cons_succ]
          refine takeL 4 (.int .i64 b.wn) rfl (by kernel_rfl) (by kernel_rfl) (by kernel_rfl) (fun _ _ _ h => h) (Or.inl ⟨rfl, fun w9 hSw => by have hc := (hSw.cell (b := b1) (o1 + k * 2 + 1) l1 (by simp)).trans d1; go_simp⟩) hHeld ?_
          try simp only [Act.put, List.setIfInBounds_toArray, List.set_cons_zero, List.set_cons_succ]
          refine takeL 5 (.slice (some ⟨b2, o2, none⟩) n cap2) rfl (by kernel_rfl) (by kernel_rfl) (by kernel_rfl) (fun _ _ _ h => h) (Or.inl ⟨rfl, fun _ _ => rfl⟩) hHeld ?_
          try simp only [Act.put, List.setIfInBounds_toArray, List.set_cons_zero, List.set_cons_succ]
          refine takeL 6 (.int .i64 (k : Int)) rfl (by kernel_rfl) (by kernel_rfl) (by kernel_rfl) (fun _ _ _ h => h) (Or.inl ⟨rfl, fun _ _ => rfl⟩) hHeld ?_
          try simp only [Act.put, List.setIfInBounds_toArray, List.set_cons_zero, List.set_cons_succ]
          refine takeL 7 (.pointer (some ⟨b2, o2 + k * 2, none⟩)) rfl (by kernel_rfl) (by kernel_rfl) (by kernel_rfl) (fun _ _ _ h => h) (Or.inl ⟨rfl, fun w9 hSw => by go_simp⟩) hHeld ?_
          try simp only [Act.put, List.setIfInBounds_toArray, List.set_cons_zero, List.set_cons_succ]
          refine takeL 8 (.pointer (some ⟨b2, o2 + k * 2 + 1, none⟩)) rfl (by kernel_rfl) (by kernel_rfl) (by kernel_rfl) (fun _ _ _ h => h) (Or.inl ⟨rfl, fun w9 hSw => by go_simp⟩) hHeld ?_
          try simp only [Act.put, List.setIfInBounds_toArray, List.set_cons_zero, List.set_cons_succ]
          refine takeL 9 (.int .i64 c.wn) rfl (by kernel_rfl) (by kernel_rfl) (by kernel_rfl) (fun _ _ _ h => h) (Or.inl ⟨rfl, fun w9 hSw => by have hc := (hSw.cell (b := b2) (o2 + k * 2 + 1) l2 (by simp)).trans e1; go_simp⟩) hHeld ?_
          try simp only [Act.put, List.setIfInBounds_toArray, List.set_cons_zero, List.set_cons_succ]
          refine takeL 10 (.bool false) rfl (by kernel_rfl) (by kernel_rfl) (by kernel_rfl) (fun _ _ _ h => h) (Or.inl ⟨rfl, fun w9 hSw => by go_simp⟩) hHeld ?_
          try simp only [Act.put, List.setIfInBounds_toArray, List.set_cons_zero, List.set_cons_succ]
          refine takeL 11 (.bool false) rfl (by kernel_rfl) (by kernel_rfl) (by kernel_rfl) (fun _ _ _ h => h) (Or.inl ⟨rfl, fun _ _ => rfl⟩) hHeld ?_
          try simp only [Act.put, List.setIfInBounds_toArray, List.set_cons_zero, List.set_cons_succ]
          refine takeL 12 (.slice (some ⟨b1, o1, none⟩) n cap1) rfl (by kernel_rfl) (by kernel_rfl) (by kernel_rfl) (fun _ _ _ h => h) (Or.inl ⟨rfl, fun _ _ => rfl⟩) hHeld ?_
          try simp only [Act.put, List.setIfInBounds_toArray, List.set_cons_zero, List.set_cons_succ]
          refine takeL 13 (.int .i64 (k : Int)) rfl (by kernel_rfl) (by kernel_rfl) (by kernel_rfl) (fun _ _ _ h => h) (Or.inl ⟨rfl, fun _ _ => rfl⟩) hHeld ?_
          try simp only [Act.put, List.setIfInBounds_toArray, List.set_cons_zero, List.set_cons_succ]
          refine takeL 14 (.pointer (some ⟨b1, o1 + k * 2, none⟩)) rfl (by kernel_rfl) (by kernel_rfl) (by kernel_rfl) (fun _ _ _ h => h) (Or.inl ⟨rfl, fun w9 hSw => by go_simp⟩) hHeld ?_
          try simp only [Act.put, List.setIfInBounds_toArray, List.set_cons_zero, List.set_cons_succ]
          refine takeL 15 (.pointer (some ⟨b1, o1 + k * 2, none⟩)) rfl (by kernel_rfl) (by kernel_rfl) (by kernel_rfl) (fun _ _ _ h => h) (Or.inl ⟨rfl, fun w9 hSw => by go_simp⟩) hHeld ?_
          try simp only [Act.put, List.setIfInBounds_toArray, List.set_cons_zero, List.set_cons_succ]
          refine takeL 16 (.slice p1 b.ps.length c1) rfl (by kernel_rfl) (by kernel_rfl) (by kernel_rfl) (fun _ _ _ h => h) (Or.inl ⟨rfl, fun w9 hSw => by have hc := (hSw.cell (b := b1) (o1 + k * 2) l1 (by simp)).trans d0; go_simp⟩) hHeld ?_
          try simp only [Act.put, List.setIfInBounds_toArray, List.set_cons_zero, List.set_cons_succ]
          refine takeL 17 (.slice (some ⟨b2, o2, none⟩) n cap2) rfl (by kernel_rfl) (by kernel_rfl) (by kernel_rfl) (fun _ _ _ h => h) (Or.inl ⟨rfl, fun _ _ => rfl⟩) hHeld ?_
          try simp only [Act.put, List.setIfInBounds_toArray, List.set_cons_zero, List.set_cons_succ]
          refine takeL 18 (.int .i64 (k : Int)) rfl (by kernel_rfl) (by kernel_rfl) (by kernel_rfl) (fun _ _ _ h => h) (Or.inl ⟨rfl, fun _ _ => rfl⟩) hHeld ?_
          try simp only [Act.put, List.setIfInBounds_toArray, List.set_cons_zero, List.set_cons_succ]
          refine takeL 19 (.pointer (some ⟨b2, o2 + k * 2, none⟩)) rfl (by kernel_rfl) (by kernel_rfl) (by kernel_rfl) (fun _ _ _ h => h) (Or.inl ⟨rfl, fun w9 hSw => by go_simp⟩) hHeld ?_
          try simp only [Act.put, List.setIfInBounds_toArray, List.set_cons_zero, List.set_cons_succ]
          refine takeL 20 (.pointer (some ⟨b2, o2 + k * 2, none⟩)) rfl (by kernel_rfl) (by kernel_rfl) (by kernel_rfl) (fun _ _ _ h => h) (Or.inl ⟨rfl, fun w9 hSw => by go_simp⟩) hHeld ?_
          try simp only [Act.put, List.setIfInBounds_toArray, List.set_cons_zero, List.set_cons_succ]
          refine takeL 21 (.slice p2 c.ps.length c2) rfl (by kernel_rfl) (by kernel_rfl) (by kernel_rfl) (fun _ _ _ h => h) (Or.inl ⟨rfl, fun w9 hSw => by have hc := (hSw.cell (b := b2) (o2 + k * 2) l2 (by simp)).trans e0; go_simp⟩) hHeld ?_
          try simp only [Act.put, List.setIfInBounds_toArray, List.set_cons_zero, List.set_cons_succ]
          refine oneL 22 rfl (by kernel_rfl) rfl (fun K hK => ?_)
          go_simp
          refine (unhide HC _ (q1.below (Kept.all hHeld (by simp))) (q2.below (Kept.all hHeld (by simp)))).mono ?_
          rintro e y1 ⟨⟨r, rfl, hr⟩, b⟩
          go_wp2_with fail
          refine hK.out _ _ (hHeld.trans (Kept.of b)) (fun hHeld => ?_)
          clear hK K
          try simp only [Act.put, List.setIfInBounds_toArray, List.set_cons_zero, List.set_cons_succ]
          have z1 := b.size
          clear b
          refine takeL 23 (.bool (!r)) rfl (by kernel_rfl) (by kernel_rfl) (by kernel_rfl) (fun _ _ _ h => h) (Or.inl ⟨rfl, fun w9 hSw => by go_simp⟩) hHeld ?_
          try simp only [Act.put, List.setIfInBounds_toArray, List.set_cons_zero, List.set_cons_succ]
          refine takeL 24 (.bool (!r)) rfl (by kernel_rfl) (by kernel_rfl) (by kernel_rfl) (fun _ _ _ h => h) (Or.inl ⟨rfl, fun w9 hSw => by go_simp⟩) hHeld ?_
          try simp only [Act.put, List.setIfInBounds_toArray, List.set_cons_zero, List.set_cons_succ]
          refine wpAnyH_done (by kernel_rfl) ?_ _
          refine NoPanic.normal ?_
          have bz := bw.trans ((Kept.all hHeld (by simp)).mono bw.size)
          clear d0 d1 e0 e1 hHeld q1 q2 hwb
          cases r
          · have hne : ¬ bs = cs := fun e => by have := hr.2 (congrArg Bk.ps (unhide HNE e)); cases this
            clear hr
            go_wp2
            go_ret
            exact ⟨⟨false, rfl, (fun h => by cases h), fun e => absurd e hne⟩, bz⟩
          · have HI3 := hide (unhide HI2 (bk_ext (hr.1 rfl) hw))
            clear hr hw
            go_wp2
            go_roundw
            case rel => exact ⟨k + 1, by omega, by first | rfl | go_num, unhide HI3, bz⟩
            case measure => simp [intOf]; omega
        · have hwb : (b.wn == c.wn) = false := by simpa using hw
          have hne : ¬ bs = cs := fun e => hw (congrArg Bk.wn (unhide HNE e))
          go_wp2_with fail
          refine wp_region_noPanic ?_
          refine wp_region_held_drew (S := fun w' => Kept [] wr w') (by kernel_rfl) (Kept.refl _ _).drew (fun hHeld => ?_)
          generalize wr.drew = y0 at *
          have z0 := hHeld.size
          refine takeL 0 (.slice (some ⟨b1, o1, none⟩) n cap1) rfl (by kernel_rfl) (by kernel_rfl) (by kernel_rfl) (fun _ _ _ h => h) (Or.inl ⟨rfl, fun _ _ => rfl⟩) hHeld ?_
          try simp only [Act.put, List.setIfInBounds_toArray, List.set_cons_zero, List.set_cons_succ]
          refine takeL 1 (.int .i64 (k : Int)) rfl (by kernel_rfl) (by kernel_rfl) (by kernel_rfl) (fun _ _ _ h => h) (Or.inl ⟨rfl, fun _ _ => rfl⟩) hHeld ?_
          try simp only [Act.put, List.setIfInBounds_toArray, List.set_cons_zero, List.set_cons_succ]
          refine takeL 2 (.pointer (some ⟨b1, o1 + k * 2, none⟩)) rfl (by kernel_rfl) (by kernel_rfl) (by kernel_rfl) (fun _ _ _ h => h) (Or.inl ⟨rfl, fun w9 hSw => by go_simp⟩) hHeld ?_
          try simp only [Act.put, List.setIfInBounds_toArray, List.set_cons_zero, List.set_cons_succ]
          refine takeL 3 (.pointer (some ⟨b1, o1 + k * 2 + 1, none⟩)) rfl (by kernel_rfl) (by kernel_rfl) (by kernel_rfl) (fun _ _ _ h => h) (Or.inl ⟨rfl, fun w9 hSw => by go_simp⟩) hHeld ?_
          try simp only [Act.put, List.setIfInBounds_toArray, List.set_cons_zero, List.set_cons_succ]
          refine takeL 4 (.int .i64 b.wn) rfl (by kernel_rfl) (by kernel_rfl) (by kernel_rfl) (fun _ _ _ h => h) (Or.inl ⟨rfl, fun w9 hSw => by have hc := (hSw.cell (b := b1) (o1 + k * 2 + 1) l1 (by simp)).trans d1; go_simp⟩) hHeld ?_
          try simp only [Act.put, List.setIfInBounds_toArray, List.set_cons_zero, List.set_cons_succ]
          refine takeL 5 (.slice (some ⟨b2, o2, none⟩) n cap2) rfl (by kernel_rfl) (by kernel_rfl) (by kernel_rfl) (fun _ _ _ h => h) (Or.inl ⟨rfl, fun _ _ => rfl⟩) hHeld ?_
          try simp only [Act.put, List.setIfInBounds_toArray, List.set_cons_zero, List.set_cons_succ]
          refine takeL 6 (.int .i64 (k : Int)) rfl (by kernel_rfl) (by kernel_rfl) (by kernel_rfl) (fun _ _ _ h => h) (Or.inl ⟨rfl, fun _ _ => rfl⟩) hHeld ?_
          try simp only [Act.put, List.setIfInBounds_toArray, List.set_cons_zero, List.set_cons_succ]
          refine takeL 7 (.pointer (some ⟨b2, o2 + k * 2, none⟩)) rfl (by kernel_rfl) (by kernel_rfl) (by kernel_rfl) (fun _ _ _ h => h) (Or.inl ⟨rfl, fun w9 hSw => by go_simp⟩) hHeld ?_
          try simp only [Act.put, List.setIfInBounds_toArray, List.set_cons_zero, List.set_cons_succ]
          refine takeL 8 (.pointer (some ⟨b2, o2 + k * 2 + 1, none⟩)) rfl (by kernel_rfl) (by kernel_rfl) (by kernel_rfl) (fun _ _ _ h => h) (Or.inl ⟨rfl, fun w9 hSw => by go_simp⟩) hHeld ?_
          try simp only [Act.put, List.setIfInBounds_toArray, List.set_cons_zero, List.set_cons_succ]
          refine takeL 9 (.int .i64 c.wn) rfl (by kernel_rfl) (by kernel_rfl) (by kernel_rfl) (fun _ _ _ h => h) (Or.inl ⟨rfl, fun w9 hSw => by have hc := (hSw.cell (b := b2) (o2 + k * 2 + 1) l2 (by simp)).trans e1; go_simp⟩) hHeld ?_
          try simp only [Act.put, List.setIfInBounds_toArray, List.set_cons_zero, List.set_cons_succ]
          refine takeL 10 (.bool true) rfl (by kernel_rfl) (by kernel_rfl) (by kernel_rfl) (fun _ _ _ h => h) (Or.inl ⟨rfl, fun w9 hSw => by go_simp⟩) hHeld ?_
          try simp only [Act.put, List.setIfInBounds_toArray, List.set_cons_zero, List.set_cons_succ]
          refine takeL 11 (.bool true) rfl (by kernel_rfl) (by kernel_rfl) (by kernel_rfl) (fun _ _ _ h => h) (Or.inl ⟨rfl, fun _ _ => rfl⟩) hHeld ?_
          try simp only [Act.put, List.setIfInBounds_toArray, List.set_cons_zero, List.set_cons_succ]
          refine takeL 12 (undef) rfl (by kernel_rfl) (by kernel_rfl) (by kernel_rfl) (fun _ _ _ h => h) (Or.inr ⟨rfl, rfl⟩) hHeld ?_
          try simp only [Act.put, List.setIfInBounds_toArray, List.set_cons_zero, List.set_cons_succ]
          refine takeL 13 (undef) rfl (by kernel_rfl) (by kernel_rfl) (by kernel_rfl) (fun _ _ _ h => h) (Or.inr ⟨rfl, rfl⟩) hHeld ?_
          try simp only [Act.put, List.setIfInBounds_toArray, List.set_cons_zero, List.set_cons_succ]
          refine takeL 14 (undef) rfl (by kernel_rfl) (by kernel_rfl) (by kernel_rfl) (fun _ _ _ h => h) (Or.inr ⟨rfl, rfl⟩) hHeld ?_
          try simp only [Act.put, List.setIfInBounds_toArray, List.set_cons_zero, List.set_cons_succ]
          refine takeL 15 (undef) rfl (by kernel_rfl) (by kernel_rfl) (by kernel_rfl) (fun _ _ _ h => h) (Or.inr ⟨rfl, rfl⟩) hHeld ?_
          try simp only [Act.put, List.setIfInBounds_toArray, List.set_cons_zero, List.set_cons_succ]
          refine takeL 16 (undef) rfl (by kernel_rfl) (by kernel_rfl) (by kernel_rfl) (fun _ _ _ h => h) (Or.inr ⟨rfl, rfl⟩) hHeld ?_
          try simp only [Act.put, List.setIfInBounds_toArray, List.set_cons_zero, List.set_cons_succ]
          refine takeL 17 (undef) rfl (by kernel_rfl) (by kernel_rfl) (by kernel_rfl) (fun _ _ _ h => h) (Or.inr ⟨rfl, rfl⟩) hHeld ?_
          try simp only [Act.put, List.setIfInBounds_toArray, List.set_cons_zero, List.set_cons_succ]
          refine takeL 18 (undef) rfl (by kernel_rfl) (by kernel_rfl) (by kernel_rfl) (fun _ _ _ h => h) (Or.inr ⟨rfl, rfl⟩) hHeld ?_
          try simp only [Act.put, List.setIfInBounds_toArray, List.set_cons_zero, List.set_cons_succ]
          refine takeL 19 (undef) rfl (by kernel_rfl) (by kernel_rfl) (by kernel_rfl) (fun _ _ _ h => h) (Or.inr ⟨rfl, rfl⟩) hHeld ?_
          try simp only [Act.put, List.setIfInBounds_toArray, List.set_cons_zero, List.set_cons_succ]
          refine takeL 20 (undef) rfl (by kernel_rfl) (by kernel_rfl) (by kernel_rfl) (fun _ _ _ h => h) (Or.inr ⟨rfl, rfl⟩) hHeld ?_
          try simp only [Act.put, List.setIfInBounds_toArray, List.set_cons_zero, List.set_cons_succ]
          refine takeL 21 (undef) rfl (by kernel_rfl) (by kernel_rfl) (by kernel_rfl) (fun _ _ _ h => h) (Or.inr ⟨rfl, rfl⟩) hHeld ?_
          try simp only [Act.put, List.setIfInBounds_toArray, List.set_cons_zero, List.set_cons_succ]
          refine takeL 22 (undef) rfl (by kernel_rfl) (by kernel_rfl) (by kernel_rfl) (fun _ _ _ h => h) (Or.inr ⟨rfl, rfl⟩) hHeld ?_
          try simp only [Act.put, List.setIfInBounds_toArray, List.set_cons_zero, List.set_cons_succ]
          refine takeL 23 (undef) rfl (by kernel_rfl) (by kernel_rfl) (by kernel_rfl) (fun _ _ _ h => h) (Or.inr ⟨rfl, rfl⟩) hHeld ?_
          try simp only [Act.put, List.setIfInBounds_toArray, List.set_cons_zero, List.set_cons_succ]
          refine takeL 24 (.bool true) rfl (by kernel_rfl) (by kernel_rfl) (by kernel_rfl) (fun _ _ _ h => h) (Or.inl ⟨rfl, fun w9 hSw => by go_simp⟩) hHeld ?_
          try simp only [Act.put, List.setIfInBounds_toArray, List.set_cons_zero, List.set_cons_succ]
          refine wpAnyH_done (by kernel_rfl) ?_ _
          refine NoPanic.normal ?_
          have bz := bw.trans ((Kept.all hHeld (by simp)).mono bw.size)
          clear d0 d1 e0 e1 hHeld q1 q2 hwb
          go_wp2
          go_ret
          exact ⟨⟨false, rfl, (fun h => by cases h), fun e => absurd e hne⟩, bz⟩
  · have hni : ¬ (n : Int) = (m : Int) := by omega
    go_wp2
    go_ret
    exact ⟨⟨false, rfl, (fun h => by cases h), fun e => absurd (by have := unhide HN; have := unhide HM; rw [e] at *; omega) hnm⟩, Below.refl _ _⟩

set_option maxHeartbeats 2000000 in
theorem lqStore_any (fa ga da ea : Option Addr) (fc gc dc ec : Nat) (bs cs : List Bk) (dk ek : List Int) (w : World) (h1 : FsAt w fa bs) (h2 : FsAt w ga cs) (k1 : DkAt w da dk) (k2 : DkAt w ea ek) (hl : bs.length ≤ 1048576) (hl2 : cs.length ≤ 1048576) (hp : ∀ b ∈ bs, b.ps.length ≤ 1048576) (hp2 : ∀ b ∈ cs, b.ps.length ≤ 1048576) (hd : dk.length ≤ 1048576) (hd2 : ek.length ≤ 1048576) :
    Calls Tryz.prog 44 #[.agg #[.slice fa bs.length fc, .slice da dk.length dc], .agg #[.slice ga cs.length gc, .slice ea ek.length ec]] w fun e w' => (∃ r, e = .returned (.bool r) ∧ (r = true ↔ bs = cs ∧ dk = ek)) ∧ Below w.heap.size w w' := by
  have B1 : Below w.heap.size w ((w.alloc (.cells #[.slice fa bs.length fc, .slice da dk.length dc] 26)).alloc (.cells #[.slice ga cs.length gc, .slice ea ek.length ec] 26)) := ((Below.refl _ _).alloc (Nat.le_refl _) _).alloc (by simp) _
  have cA := (CsAt.new w [.slice fa bs.length fc, .slice da dk.length dc] 26).alloc (by simp) (.cells #[.slice ga cs.length gc, .slice ea ek.length ec] 26)
  have cB := CsAt.new (w.alloc (.cells #[.slice fa bs.length fc, .slice da dk.length dc] 26)) [.slice ga cs.length gc, .slice ea ek.length ec] 26
  rw [World.size_alloc] at cB
  have s0 : w.heap.size + 2 ≤ ((w.alloc (.cells #[.slice fa bs.length fc, .slice da dk.length dc] 26)).alloc (.cells #[.slice ga cs.length gc, .slice ea ek.length ec] 26)).heap.size := by simp
  have HC := hide (lqFlash_any fa ga fc gc bs cs _ (h1.below B1) (h2.below B1) hl hl2 hp hp2)
  have HK1 := hide (k1.below B1)
  have HK2 := hide (k2.below B1)
  clear h1 h2 k1 k2 hp hp2
  go_enter Tryz.func44, Tryz.ntmps44
  have x0 := cA.cell 0 _ rfl
  have x1 := cA.cell 1 _ rfl
  have y0 := cB.cell 0 _ rfl
  have y1 := cB.cell 1 _ rfl
  go_wp2_with fail
  generalize (w.alloc (.cells #[.slice fa bs.length fc, .slice da dk.length dc] 26)).alloc (.cells #[.slice ga cs.length gc, .slice ea ek.length ec] 26) = w1 at *
  refine (unhide HC).mono ?_
  rintro e w2 ⟨⟨r, rfl, hr⟩, b⟩
  have B2 := B1.trans (b.mono B1.size)
  have HL := hide (lqInts_any da ea dc ec dk ek _ ((unhide HK1).below b) ((unhide HK2).below b) hd hd2)
  replace cA := cA.below b (by omega)
  replace cB := cB.below b (by omega)
  clear x0 x1 y0 y1 b B1 HC HK1 HK2
  have x1 := cA.cell 1 _ rfl
  have y1 := cB.cell 1 _ rfl
  clear cA cB s0
  have HR := hide hr
  clear hr
  cases r
  · clear HL x1 y1
    go_wp2
    go_ret
    exact ⟨⟨false, rfl, (fun h => by cases h), fun e => (unhide HR).2 e.1⟩, B2⟩
  · go_wp2_with fail
    refine (unhide HL).mono ?_
    rintro e w3 ⟨rfl, b⟩
    have B3 := B2.trans (b.mono B2.size)
    clear x1 y1 b HL B2
    go_wp2
    go_ret
    exact ⟨⟨sameL dk ek, rfl, (fun h => ⟨(unhide HR).1 (by trivial), same_iff.1 h⟩), fun e => same_iff.2 e.2⟩, B3⟩
end Go.Proofs.YtogfelpdgeionaaGreat.LqF
