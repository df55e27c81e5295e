/-
  Texts that belong together, one behind the other: FlB, ClA, DrB.
-/
import Derived.Test.YtkikeapfjpnkgaaPyA
import Derived.OwnWalk

/-
  Blocks that are drawn: whatever is drawn, blocks and pages of ints lie there, in memory of their own.
-/
namespace Go.Proofs.Ytkikeapfjpnkgaa.FlB
open Go.ChangeShapes Go.WideShapes Go.ChangeAt Go.RowKit Go.Shelf Big Fl ImplF ImplL Kp StA RmA DoA AlA DpA NwA Pick Draw EvA ImplB ImplS ImplU SpecC SpecD SpecW ImplW PyA
set_option linter.unusedVariables false
set_option linter.unusedSimpArgs false
attribute [local go_sem ↓] Go.wp_at_zero Go.wp_at_succ

/-- A block from lo on, its pages too. -/
def BkN (lo : Nat) (w : World) (g o : Nat) (b : Bk) : Prop := ∃ pb po pc, w.cell? ⟨g, o, none⟩ = some (.slice (some ⟨pb, po, none⟩) b.ps.length pc) ∧ w.cell? ⟨g, o + 1, none⟩ = some (.int .i64 b.wn) ∧ w.rangeAt pb po (psC b.ps) ∧ lo ≤ pb ∧ pb < w.heap.size ∧ pb ≠ g ∧ b.ps.length ≤ pc ∧ w.there pb po (b.ps.length * 5)
structure FsN (lo : Nat) (w : World) (g o : Nat) (bs : List Bk) : Prop where
  glo : lo ≤ g
  ghi : g < w.heap.size
  bk : ∀ i (hi : i < bs.length), BkN lo w g (o + i * 2) bs[i]
  four : bs.length ≤ 4
  pgs : ∀ b ∈ bs, b.ps.length ≤ 4
  ap : ∀ i j, i < bs.length → j < bs.length → i ≠ j → ∀ pb po n c pb' po' n' c', w.cell? ⟨g, o + i * 2, none⟩ = some (.slice (some ⟨pb, po, none⟩) n c) → w.cell? ⟨g, o + j * 2, none⟩ = some (.slice (some ⟨pb', po', none⟩) n' c') → pb ≠ pb'
variable {lo g o : Nat} {w w' : World} {bs : List Bk} {L : List Nat}
theorem FsN.fs (h : FsN lo w g o bs) : FsAt w (some ⟨g, o, none⟩) bs := .inr ⟨g, o, rfl, fun i hi => by
  obtain ⟨pb, po, pc, h1, h2, h3, _⟩ := h.bk i hi
  exact ⟨_, pc, h1, h2, .inr ⟨pb, po, rfl, h3⟩⟩⟩
theorem FsN.kept (h : FsN lo w g o bs) (k : Kept L w w') (hL : ∀ x ∈ L, x < lo) : FsN lo w' g o bs := by
  have hn : ∀ x, lo ≤ x → x ∉ L := fun x hx hm => by have := hL x hm; omega
  refine ⟨h.glo, Nat.lt_of_lt_of_le h.ghi k.size, fun i hi => ?_, h.four, h.pgs, fun i j hi hj hne pb po n c pb' po' n' c' h1 h2 => ?_⟩
  rotate_left
  · rw [k.cell _ h.ghi (hn g h.glo)] at h1 h2
    exact h.ap i j hi hj hne _ _ _ _ _ _ _ _ h1 h2
  obtain ⟨pb, po, pc, h1, h2, h3, h4, h5, h6⟩ := h.bk i hi
  exact ⟨pb, po, pc, by rw [k.cell _ h.ghi (hn g h.glo)]; exact h1, by rw [k.cell _ h.ghi (hn g h.glo)]; exact h2, k.range h3 h5 (hn pb h4), h4, Nat.lt_of_lt_of_le h5 k.size, h6.1, h6.2.1, k.there h6.2.2 h5 (hn pb h4)⟩
theorem FsN.of {G : List Nat} {n : Nat} (h : Own.Own w lo g G bs n) (h4 : bs.length ≤ 4) (hp : ∀ b ∈ bs, b.ps.length ≤ 4) : FsN lo w g 0 bs := by
  refine ⟨h.lo g (by simp), h.hi g (by simp), fun i hi => ?_, h4, hp, fun i j hi hj hne pb po n c pb' po' n' c' h1 h2 => ?_⟩
  rotate_left
  · obtain ⟨c1, e1⟩ := h.out i hi
    obtain ⟨c2, e2⟩ := h.out j hj
    rw [Nat.zero_add, e1] at h1
    rw [Nat.zero_add, e2] at h2
    simp at h1 h2
    have hG := h.len
    have := SpecW.apart h j (by omega) i (by omega) hne
    rw [← h1.1.1, ← h2.1.1]
    exact this
  obtain ⟨pc, h1⟩ := h.out i hi
  have hm : G[i]'(by have := h.len; omega) ∈ g :: G := List.mem_cons_of_mem _ (List.getElem_mem _)
  exact ⟨_, 0, pc, by rw [Nat.zero_add]; exact h1, by rw [Nat.zero_add]; exact h.worn i hi, h.pgs i hi, h.lo _ hm, h.hi _ hm, (fun e => (List.nodup_cons.1 h.nd).1 (e ▸ List.getElem_mem _)), h.caps i hi _ _ _ h1, h.free i hi⟩
/-- But for the first. -/
theorem FsN.rest (h : FsN lo w g o bs) : FsN lo w g (o + 2) bs.tail := by
  refine ⟨h.glo, h.ghi, fun i hi => ?_, by have := h.four; simp; omega, fun b hb => h.pgs b (List.mem_of_mem_tail hb), fun i j hi hj hne pb po n c pb' po' n' c' h1 h2 => ?_⟩
  rotate_left
  · rw [show o + 2 + i * 2 = o + (i + 1) * 2 by omega] at h1
    rw [show o + 2 + j * 2 = o + (j + 1) * 2 by omega] at h2
    exact h.ap (i + 1) (j + 1) (by simp at hi; omega) (by simp at hj; omega) (by omega) _ _ _ _ _ _ _ _ h1 h2
  have hi' : i + 1 < bs.length := by simp at hi; omega
  have := h.bk (i + 1) hi'
  rw [show o + (i + 1) * 2 = o + 2 + i * 2 by omega] at this
  rw [List.getElem_tail]
  exact this
/-- A block without its first page. -/
theorem FsN.less (h : FsN lo w g o bs) (k : Nat) (hk : k < bs.length) (pb po pc c : Nat) (hc : w.cell? ⟨g, o + k * 2, none⟩ = some (.slice (some ⟨pb, po, none⟩) bs[k].ps.length pc)) (hl : 0 < bs[k].ps.length) (hcc : bs[k].ps.length - 1 ≤ c) :
    FsN lo (w.setCell ⟨g, o + k * 2, none⟩ (.slice (some ⟨pb, po + 5, none⟩) (bs[k].ps.length - 1) c)) g o (bs.set k ⟨bs[k].ps.tail, bs[k].wn⟩) := by
  show FsN lo (w.setCells g (o + k * 2) [.slice (some ⟨pb, po + 5, none⟩) (bs[k].ps.length - 1) c]) g o _
  have hs := size_setCells g [.slice (some ⟨pb, po + 5, none⟩) (bs[k].ps.length - 1) c] (o + k * 2) w
  have hsame : (w.setCells g (o + k * 2) [.slice (some ⟨pb, po + 5, none⟩) (bs[k].ps.length - 1) c]).cell? ⟨g, o + k * 2, none⟩ = some (.slice (some ⟨pb, po + 5, none⟩) (bs[k].ps.length - 1) c) := by
    have := World.cell?_setCells_in g [.slice (some ⟨pb, po + 5, none⟩) (bs[k].ps.length - 1) c] (o + k * 2) w (fun j hj => by
      obtain rfl : j = 0 := by simp at hj; exact hj
      rw [Nat.add_zero, hc]; rfl) 0 (by simp)
    exact this
  have hget : ∀ i (v : Option Addr) n c', (w.setCells g (o + k * 2) [.slice (some ⟨pb, po + 5, none⟩) (bs[k].ps.length - 1) c]).cell? ⟨g, o + i * 2, none⟩ = some (.slice v n c') → ∃ v' n' c'', w.cell? ⟨g, o + i * 2, none⟩ = some (.slice v' n' c'') ∧ (∀ b p, v = some ⟨b, p, none⟩ → ∃ p', v' = some ⟨b, p', none⟩) := fun i v n c' hv => by
    by_cases e : i = k
    · subst e
      rw [hsame] at hv
      simp at hv
      exact ⟨_, _, _, hc, fun b p hb => by rw [← hv.1] at hb; simp at hb; exact ⟨po, by rw [hb.1]⟩⟩
    · rw [Own.cell_setCells_ne (.inr (by simp; omega))] at hv
      exact ⟨_, _, _, hv, fun b p hb => ⟨p, hb⟩⟩
  refine ⟨h.glo, by rw [hs]; exact h.ghi, fun i hi => ?_, by simpa using h.four, fun b hb => ?_, fun i j hi hj hne pb1 po1 n1 c1 pb2 po2 n2 c2 h1 h2 => ?_⟩
  rotate_left
  rotate_left
  · obtain ⟨v1, m1, d1, e1, f1⟩ := hget i _ _ _ h1
    obtain ⟨v2, m2, d2, e2, f2⟩ := hget j _ _ _ h2
    obtain ⟨q1, rfl⟩ := f1 _ _ rfl
    obtain ⟨q2, rfl⟩ := f2 _ _ rfl
    exact h.ap i j (by simpa using hi) (by simpa using hj) hne _ _ _ _ _ _ _ _ e1 e2
  · simp only [List.length_set] at hi
    obtain ⟨pb', po', pc', h1, h2, h3, h4, h5, h6, h7, h9⟩ := h.bk i hi
    by_cases e : i = k
    · subst e
      rw [hc] at h1
      simp at h1
      obtain ⟨⟨rfl, rfl⟩, rfl⟩ := h1
      simp only [List.getElem_set_self]
      refine ⟨pb, po + 5, c, ?_, ?_, ?_, h4, by rw [hs]; exact h5, h6, by simpa using hcc, World.there_setCells (there_sub h9 5 _ (by simp; omega)) _ _ _⟩
      · rw [hsame]; simp
      · rw [Own.cell_setCells_ne (.inr (.inr (by simp)))]; exact h2
      · have h8 : w.rangeAt pb (po + 5) (psC bs[i].ps.tail) := by
          match hps : bs[i].ps, hl with
          | p :: r, _ =>
            rw [hps] at h3
            have := (range_app (l1 := pgC p) (l2 := psC r)).1 (by simpa [psC] using h3)
            exact this.2
        intro j v hv
        rw [Own.cell_setCells_ne (.inl h6)]
        exact h8 j v hv
    · rw [List.getElem_set_ne (fun q => e q.symm)]
      refine ⟨pb', po', pc', ?_, ?_, fun j v hv => ?_, h4, by rw [hs]; exact h5, h6, h7, World.there_setCells h9 _ _ _⟩
      · rw [Own.cell_setCells_ne (.inr (by simp; omega))]; exact h1
      · rw [Own.cell_setCells_ne (.inr (by simp; omega))]; exact h2
      · rw [Own.cell_setCells_ne (.inl h6)]
        exact h3 j v hv
  · rcases List.mem_or_eq_of_mem_set hb with hb | rfl
    · exact h.pgs b hb
    · have := h.pgs _ (List.getElem_mem hk)
      simp; omega

theorem rec_k (u w0 w : World) (rb : Nat) (a : Option Addr) (len cap : Nat) (p : Int) (hr : Row w0 a len) (hl : len ≤ 10000) (h : Rd u w0 rb a len cap p w) (hp0 : 0 ≤ p) (hp : p ≤ 9000) :
    Calls Try.prog 41 #[.pointer (some ⟨rb, 0, none⟩)] w fun e w' => ∃ k s x v p' : Int, e = .returned (.agg #[.int .i64 k, .int .i64 s, .int .i64 x, .int .i64 v]) ∧ p ≤ p' ∧ p' ≤ p + 6 ∧ Rd u w0 rb a len cap p' w' ∧ Kept [rb] w w' := by
  refine (l71Rec_any w w0 w rb a len cap p hr hl ⟨h.lt, h.old, h.c0, h.c1, h.f1, h.bel, Kept.refl _ _⟩ hp0 hp).mono ?_
  rintro e w' ⟨k, s, x, v, p', rfl, _, _, _, _, h1, h2, d⟩
  exact ⟨k, s, x, v, p', rfl, h1, h2, ⟨d.lt, d.old, d.c0, d.c1, d.f1, d.bel, h.kp.trans d.kp⟩, d.kp⟩

/-- Blocks that are drawn. -/
def FlPost (u w0 w : World) (rb : Nat) (a : Option Addr) (len cap : Nat) (p : Int) (e : Ending) (w' : World) : Prop :=
  ∃ g o c bs p', e = .returned (.slice (some ⟨g, o, none⟩) bs.length c) ∧ FsN w.heap.size w' g o bs ∧ p ≤ p' ∧ p' ≤ p + 520 ∧ Rd u w0 rb a len cap p' w' ∧ Kept [rb] w w'
/-- The same, and what is ok lies in rows of its own. -/
def FoPost (u w0 w : World) (rb : Nat) (a : Option Addr) (len cap : Nat) (p : Int) (e : Ending) (w' : World) : Prop :=
  ∃ g o c bs p', e = .returned (.slice (some ⟨g, o, none⟩) bs.length c) ∧ FsN w.heap.size w' g o bs ∧ p ≤ p' ∧ p' ≤ p + 520 ∧ Rd u w0 rb a len cap p' w' ∧ Kept [rb] w w' ∧ (okB bs = true → o = 0 ∧ 4 ≤ c ∧ ∃ G, Own.Own w' w.heap.size g G bs 4)

set_option maxRecDepth 100000 in
set_option maxHeartbeats 4000000 in
theorem flash_own (u w0 w : World) (rb : Nat) (a : Option Addr) (len cap : Nat) (p : Int) (hr : Row w0 a len) (hl : len ≤ 10000) (h : Rd u w0 rb a len cap p w) (hp0 : 0 ≤ p) (hp : p ≤ 1000) :
    Calls Try.prog 40 #[.pointer (some ⟨rb, 0, none⟩)] w fun e w' => FoPost u w0 w rb a len cap p e w' := by
  have hlt := h.lt
  have hold := h.old
  have hu := h.kp.size
  have HPL := hide (play_any u w0 w rb a len cap p hr hl h hp0 hp)
  have HDONE : Hid (∀ (g o c : Nat) (bs : List Bk) (p' : Int) (w' : World) (v : Value), v = .slice (some ⟨g, o, none⟩) bs.length c → FsN w.heap.size w' g o bs → p ≤ p' → p' ≤ p + 520 → Rd u w0 rb a len cap p' w' → Kept [rb] w w' → (okB bs = true → o = 0 ∧ 4 ≤ c ∧ ∃ G, Own.Own w' w.heap.size g G bs 4) → FoPost u w0 w rb a len cap p (.returned v) w') := fun g o c bs p' w' v hv h1 h2 h3 h4 h5 h6 => ⟨g, o, c, bs, p', by rw [hv], h1, h2, h3, h4, h5, h6⟩
  go_enter Try.func40, Try.ntmps40
  go_wp2_with fail
  refine (unhide HPL).mono ?_
  rintro e w1 ⟨ev, g, d, G, c, B, D, p1, rfl, hok, S1, hp1, hp2, d1, k1, hc4⟩
  have bA : Below w1.heap.size w1 (w1.alloc (.cells #[.slice (some ⟨g, 0, none⟩) 4 c, .slice (some ⟨d, 0, none⟩) 6 6] 54)) := (Below.refl _ _).alloc (Nat.le_refl _) _
  have cA := CsAt.new w1 [.slice (some ⟨g, 0, none⟩) 4 c, .slice (some ⟨d, 0, none⟩) 6 6] 54
  have d2 := d1.alloc (.cells #[.slice (some ⟨g, 0, none⟩) 4 c, .slice (some ⟨d, 0, none⟩) 6 6] 54)
  have o2 := S1.own.below bA (Nat.le_refl _)
  have k2 : Kept [rb] w (w1.alloc (.cells #[.slice (some ⟨g, 0, none⟩) 4 c, .slice (some ⟨d, 0, none⟩) 6 6] 54)) := k1.trans (Kept.of bA)
  have x0 := cA.cell 0 _ rfl
  have hB4 := ok_len hok
  have hF := ok_fours hok
  have HF := hide hF
  clear S1 bA d1 k1 hok hF HPL
  go_wp2_with fail
  generalize w1.alloc (.cells #[.slice (some ⟨g, 0, none⟩) 4 c, .slice (some ⟨d, 0, none⟩) 6 6] 54) = w2 at *
  clear x0 cA
  refine (pick_k u w0 w2 rb a len cap p1 20 hr hl d2 (by omega) (by omega) (by omega) (by omega)).mono ?_
  rintro e w3 ⟨r, rfl, r0, r1, d3, m3⟩
  have hrbG : rb ∉ g :: G := fun hm => by have := o2.lo rb hm; omega
  have o3 := own_kept o2 m3 (fun x hx hm => by simp at hm; subst hm; exact hrbG hx)
  have k3 := k2.trans m3
  have hk3 := k3.size
  clear d2 o2 k2 m3
  by_cases q0 : r = 0
  · subst q0
    have HBP := hide (fun (st k s x v : Int) => (show Try.prog.built 33 [(0, .int .i64 st), (1, .agg #[.int .i64 k, .int .i64 s, .int .i64 x, .int .i64 v])] = some (pgC ⟨st, k, s, x, v⟩).toArray by kernel_rfl))
    have HPS := hide (show (Try.prog.info? 33).map (·.size) = some 5 by kernel_rfl)
    have hgh := o3.hi g (by simp)
    have hgG : g ∉ rb :: G := fun hm => by
      rcases List.mem_cons.1 hm with e | hm
      · exact hrbG (e ▸ (by simp))
      · exact (List.nodup_cons.1 o3.nd).1 hm
    go_upto_region 5 with fail
    refine wp_region_noPanic ?_
    refine wp_region_held_drew (S := fun w' => Kept (rb :: G) w3 w') (by kernel_rfl) ((Kept.refl _ _).drew) (fun hHeld => ?_)
    refine takeL 0 (.slice (some ⟨g, 0, none⟩) 4 c) rfl (by kernel_rfl) (by kernel_rfl) (by kernel_rfl) (fun _ _ _ h => h) (Or.inl ⟨rfl, fun _ _ => rfl⟩) hHeld ?_
    try simp only [Act.put, List.setIfInBounds_toArray, List.set_cons_zero, List.set_cons_succ]
    refine takeL 1 (.pointer (some ⟨rb, 0, none⟩)) rfl (by kernel_rfl) (by kernel_rfl) (by kernel_rfl) (fun _ _ _ h => h) (Or.inl ⟨rfl, fun _ _ => rfl⟩) hHeld ?_
    try simp only [Act.put, List.setIfInBounds_toArray, List.set_cons_zero, List.set_cons_succ]
    refine takeL 2 (.slice (some ⟨g, 0, none⟩) 4 c) rfl (by kernel_rfl) (by kernel_rfl) (by kernel_rfl) (fun _ _ _ h => h) (Or.inl ⟨rfl, fun _ _ => rfl⟩) hHeld ?_
    try simp only [Act.put, List.setIfInBounds_toArray, List.set_cons_zero, List.set_cons_succ]
    refine takeL 3 (.int .i64 4) rfl (by kernel_rfl) (by kernel_rfl) (by kernel_rfl) (fun _ _ _ h => h) (Or.inl ⟨rfl, fun w9 hSw => by go_simp⟩) hHeld ?_
    try simp only [Act.put, List.setIfInBounds_toArray, List.set_cons_zero, List.set_cons_succ]
    refine takeL 8 (.pointer (some ⟨rb, 0, none⟩)) rfl (by kernel_rfl) (by kernel_rfl) (by kernel_rfl) (fun _ _ _ h => h) (Or.inl ⟨rfl, fun _ _ => rfl⟩) hHeld ?_
    try simp only [Act.put, List.setIfInBounds_toArray, List.set_cons_zero, List.set_cons_succ]
    refine takeL 10 (.pointer (some ⟨rb, 0, none⟩)) rfl (by kernel_rfl) (by kernel_rfl) (by kernel_rfl) (fun _ _ _ h => h) (Or.inl ⟨rfl, fun _ _ => rfl⟩) hHeld ?_
    try simp only [Act.put, List.setIfInBounds_toArray, List.set_cons_zero, List.set_cons_succ]
    refine takeL 12 (.pointer (some ⟨rb, 0, none⟩)) rfl (by kernel_rfl) (by kernel_rfl) (by kernel_rfl) (fun _ _ _ h => h) (Or.inl ⟨rfl, fun _ _ => rfl⟩) hHeld ?_
    try simp only [Act.put, List.setIfInBounds_toArray, List.set_cons_zero, List.set_cons_succ]
    have d4 := d3.drew
    have k4 := k3.drew
    have o4 : Own.Own w3.drew w.heap.size g G B 4 := own_kept o3 (Kept.refl [] w3).drew (by simp)
    refine oneL 4 rfl (by kernel_rfl) rfl (fun K hK => ?_)
    go_simp
    refine (pick_k u w0 _ rb a len cap (p1 + 1) 4 hr hl d4 (by omega) (by omega) (by omega) (by omega)).mono ?_
    rintro e w5 ⟨i0, rfl, i00, i01, d5, m5⟩
    go_wp2_with fail
    refine hK.out _ _ (hHeld.trans (m5.sub (fun x hx => by simp at hx; simp [hx]))) (fun hHeld => ?_)
    clear hK K
    try simp only [Act.put, List.setIfInBounds_toArray, List.set_cons_zero, List.set_cons_succ]
    have o5 := own_kept o4 m5 (fun x hx hm => by simp at hm; subst hm; exact hrbG hx)
    have k5 := k4.trans m5
    clear m5
    obtain ⟨i, rfl⟩ := Int.eq_ofNat_of_zero_le i00
    have hi : i < B.length := by omega
    have hb4 : B[i].ps.length = 4 := (unhide HF).at i hi
    obtain ⟨pc, c0⟩ := o3.out i hi
    rw [hb4] at c0
    have hgm : G[i]'(by have := o3.len; omega) ∈ G := List.getElem_mem _
    have hgl := o3.lo _ (List.mem_cons_of_mem g hgm)
    generalize hgi : G[i]'(by have := o3.len; omega) = gi at *
    refine takeL 5 (.pointer (some ⟨g, i * 2, none⟩)) rfl (by kernel_rfl) (by kernel_rfl) (by kernel_rfl) (fun _ _ _ h => h) (Or.inl ⟨rfl, fun w9 hSw => by go_simp⟩) hHeld ?_
    try simp only [Act.put, List.setIfInBounds_toArray, List.set_cons_zero, List.set_cons_succ]
    refine takeL 6 (.pointer (some ⟨g, i * 2, none⟩)) rfl (by kernel_rfl) (by kernel_rfl) (by kernel_rfl) (fun _ _ _ h => h) (Or.inl ⟨rfl, fun w9 hSw => by go_simp⟩) hHeld ?_
    try simp only [Act.put, List.setIfInBounds_toArray, List.set_cons_zero, List.set_cons_succ]
    refine takeL 7 (.slice (some ⟨gi, 0, none⟩) 4 pc) rfl (by kernel_rfl) (by kernel_rfl) (by kernel_rfl) (fun _ _ _ h => h) (Or.inl ⟨rfl, fun w9 hSw => by have hc := (hSw.cell (i * 2) hgh hgG).trans c0; go_simp⟩) hHeld ?_
    try simp only [Act.put, List.setIfInBounds_toArray, List.set_cons_zero, List.set_cons_succ]
    refine oneL 9 rfl (by kernel_rfl) rfl (fun K hK => ?_)
    go_simp
    refine (pick_k u w0 _ rb a len cap (p1 + 1 + 1) 4 hr hl d5 (by omega) (by omega) (by omega) (by omega)).mono ?_
    rintro e w6 ⟨j0, rfl, j00, j01, d6, m6⟩
    go_wp2_with fail
    refine hK.out _ _ (hHeld.trans (m6.sub (fun x hx => by simp at hx; simp [hx]))) (fun hHeld => ?_)
    clear hK K
    try simp only [Act.put, List.setIfInBounds_toArray, List.set_cons_zero, List.set_cons_succ]
    have o6 := own_kept o5 m6 (fun x hx hm => by simp at hm; subst hm; exact hrbG hx)
    have k6 := k5.trans m6
    clear m6
    obtain ⟨j, rfl⟩ := Int.eq_ofNat_of_zero_le j00
    have hj : j < 4 := by omega
    refine oneL 11 rfl (by kernel_rfl) rfl (fun K hK => ?_)
    go_simp
    refine (pick_k u w0 _ rb a len cap (p1 + 1 + 1 + 1) 4 hr hl d6 (by omega) (by omega) (by omega) (by omega)).mono ?_
    rintro e w7 ⟨st, rfl, st0, st1, d7, m7⟩
    go_wp2_with fail
    refine hK.out _ _ (hHeld.trans (m7.sub (fun x hx => by simp at hx; simp [hx]))) (fun hHeld => ?_)
    clear hK K
    try simp only [Act.put, List.setIfInBounds_toArray, List.set_cons_zero, List.set_cons_succ]
    have o7 := own_kept o6 m7 (fun x hx hm => by simp at hm; subst hm; exact hrbG hx)
    have k7 := k6.trans m7
    clear m7
    refine oneL 13 rfl (by kernel_rfl) rfl (fun K hK => ?_)
    go_simp
    refine (rec_k u w0 _ rb a len cap (p1 + 1 + 1 + 1 + 1) hr hl d7 (by omega) (by omega)).mono ?_
    rintro e w8 ⟨rk, rs, ra, rv, p8, rfl, p80, p81, d8, m8⟩
    go_wp2_with fail
    refine hK.out _ _ (hHeld.trans (m8.sub (fun x hx => by simp at hx; simp [hx]))) (fun hHeld => ?_)
    clear hK K
    try simp only [Act.put, List.setIfInBounds_toArray, List.set_cons_zero, List.set_cons_succ]
    have o8 := own_kept o7 m8 (fun x hx hm => by simp at hm; subst hm; exact hrbG hx)
    have k8 := k7.trans m8
    clear m8
    refine oneL 14 rfl (by kernel_rfl) rfl (fun K hK => ?_)
    refine wp_build_two 33 _ _ rfl (.int .i64 st) (.agg #[.int .i64 rk, .int .i64 rs, .int .i64 ra, .int .i64 rv]) rfl rfl (pgC ⟨st, rk, rs, ra, rv⟩).toArray (unhide HBP st rk rs ra rv) ?_
    refine hK.out _ _ hHeld (fun hHeld => ?_)
    clear hK K
    try simp only [Act.put, List.setIfInBounds_toArray, List.set_cons_zero, List.set_cons_succ]
    refine takeL 15 (.pointer (some ⟨gi, j * 5, none⟩)) rfl (by kernel_rfl) (by kernel_rfl) (by kernel_rfl) (fun _ _ _ h => h) (Or.inl ⟨rfl, fun w9 hSw => by go_simp⟩) hHeld ?_
    try simp only [Act.put, List.setIfInBounds_toArray, List.set_cons_zero, List.set_cons_succ]
    have tP : w8.there gi (j * 5) 5 := by
      have h9 := o8.free i hi
      rw [hgi, hb4] at h9
      have := there_sub h9 (j * 5) 5 (by omega)
      rw [Nat.zero_add] at this
      exact this
    have oZ := Own.page o8 i hi j (by omega) ⟨st, rk, rs, ra, rv⟩
    rw [hgi] at oZ
    refine oneL 16 rfl (by kernel_rfl) rfl (fun K hK => ?_)
    refine wp_store_mid 33 _ _ rfl gi (j * 5) (pgC ⟨st, rk, rs, ra, rv⟩).toArray rfl rfl tP (unhide HPS) (all_oneCell_toArray (one_pgC _)) ?_
    refine hK.out _ _ (hHeld.setCells (.inl (List.mem_cons_of_mem _ hgm)) _ _) (fun _ => ?_)
    clear hK K
    try simp only [Act.put, List.setIfInBounds_toArray, List.set_cons_zero, List.set_cons_succ]
    refine wpAnyH_done (by kernel_rfl) ?_ _
    refine NoPanic.normal ?_
    have kz := kept_cells w8 gi (j * 5) (pgC ⟨st, rk, rs, ra, rv⟩)
    have d9 := rd_set d8 kz (fun e => hrbG (e ▸ List.mem_cons_of_mem _ hgm)) (by omega) (by omega)
    have k9 := k8.then kz (fun y hy => by simp at hy; subst hy; right; omega)
    have F9 := FsN.of oZ (by simp; omega) (fun b hb => by
      rcases List.mem_or_eq_of_mem_set hb with hb | rfl
      · have := unhide HF b hb; omega
      · simp; omega)
    have hl9 : (B.set i ⟨B[i].ps.set j ⟨st, rk, rs, ra, rv⟩, B[i].wn⟩).length = 4 := by simp; omega
    clear hHeld
    go_wp2
    go_ret
    exact unhide HDONE g 0 c _ p8 _ _ (by rw [hl9]; rfl) F9 (by omega) (by omega) d9 k9 (fun _ => ⟨rfl, hc4, G, oZ⟩)
  by_cases q1 : r = 1
  · subst q1
    go_wp2_with fail
    refine (pick_k u w0 w3 rb a len cap (p1 + 1) 4 hr hl d3 (by omega) (by omega) (by omega) (by omega)).mono ?_
    rintro e w4 ⟨i0, rfl, i1, i2, d4, m4⟩
    obtain ⟨i, rfl⟩ := Int.eq_ofNat_of_zero_le i1
    have hi : i < B.length := by omega
    have o4 := own_kept o3 m4 (fun x hx hm => by simp at hm; subst hm; exact hrbG hx)
    have k4 := k3.trans m4
    have bA : Below w4.heap.size w4 (w4.alloc (.cells #[.int .i64 (-1), .int .i64 200, .int .i64 201] 3)) := (Below.refl _ _).alloc (Nat.le_refl _) _
    have cL := CsAt.new w4 [.int .i64 (-1), .int .i64 200, .int .i64 201] 3
    have d5 := d4.alloc (.cells #[.int .i64 (-1), .int .i64 200, .int .i64 201] 3)
    have o5 := o4.below bA (Nat.le_refl _)
    have k5 : Kept [rb] w (w4.alloc (.cells #[.int .i64 (-1), .int .i64 200, .int .i64 201] 3)) := k4.trans (Kept.of bA)
    have s5 : w4.heap.size < (w4.alloc (.cells #[.int .i64 (-1), .int .i64 200, .int .i64 201] 3)).heap.size := by simp
    have hk4 := k4.size
    clear d3 o3 k3 m4 d4 o4 k4 bA
    go_wp2_with fail
    generalize w4.alloc (.cells #[.int .i64 (-1), .int .i64 200, .int .i64 201] 3) = w5 at *
    generalize w4.heap.size = A at *
    refine (pick_k u w0 w5 rb a len cap (p1 + 1 + 1) 3 hr hl d5 (by omega) (by omega) (by omega) (by omega)).mono ?_
    rintro e w6 ⟨j0, rfl, j1, j2, d6, m6⟩
    obtain ⟨j, rfl⟩ := Int.eq_ofNat_of_zero_le j1
    have hj : j < 3 := by omega
    have o6 := own_kept o5 m6 (fun x hx hm => by simp at hm; subst hm; exact hrbG hx)
    have k6 := k5.trans m6
    have cL6 := csAt_kept cL m6 s5 (by simp; omega)
    obtain ⟨x, hx⟩ : ∃ x : Int, w6.cell? ⟨A, j, none⟩ = some (.int .i64 x) := by
      match j, hj with
      | 0, _ => exact ⟨_, cL6.cell 0 _ rfl⟩
      | 1, _ => exact ⟨_, cL6.cell 1 _ rfl⟩
      | 2, _ => exact ⟨_, cL6.cell 2 _ rfl⟩
    have c1 := o6.worn i hi
    have f1 : w6.frozen? ⟨g, i * 2 + 1, none⟩ = false := by have := (o6.room (i * 2 + 1) (by omega)).2; rwa [Nat.zero_add] at this
    have oZ := SpecW.wear o6 i hi x
    have hgl := o6.lo g (by simp)
    have hne : g ≠ rb := fun e => hrbG (e ▸ (by simp))
    have F7 := FsN.of oZ (by simp; omega) (fun b hb => by
      rcases List.mem_or_eq_of_mem_set hb with hb | rfl
      · have := unhide HF b hb; omega
      · have := unhide HF _ (List.getElem_mem hi); exact Nat.le_of_eq this)
    have kz := kept_cell w6 g (i * 2 + 1) (.int .i64 x)
    have d7 := rd_set d6 kz hne (by omega) (by omega)
    have k7 := k6.then kz (fun y hy => by simp at hy; subst hy; right; omega)
    have hl7 : (B.set i ⟨B[i].ps, x⟩).length = 4 := by simp; omega
    have O7 := oZ
    clear oZ o6 o5 d5 k5 k6 d6 cL cL6 m6
    go_wp2
    go_ret
    exact unhide HDONE g 0 c _ (p1 + 1 + 1 + 1) _ _ (by rw [hl7]; rfl) F7 (by omega) (by omega) d7 k7 (fun _ => ⟨rfl, hc4, G, O7⟩)
  by_cases q2 : r = 2
  · subst q2
    have F3 := (FsN.of o3 (by omega) (fun b hb => by have := unhide HF b hb; omega)).rest
    have hl3 : B.tail.length = 3 := by simp; omega
    go_wp2
    go_ret
    exact unhide HDONE g 2 _ _ (p1 + 1) w3 _ (by rw [hl3]; rfl) F3 (by omega) (by omega) d3 k3 (fun q => by have := ok_len q; omega)
  by_cases q3 : r = 3
  · subst q3
    go_wp2_with fail
    refine (pick_k u w0 w3 rb a len cap (p1 + 1) 4 hr hl d3 (by omega) (by omega) (by omega) (by omega)).mono ?_
    rintro e w4 ⟨i0, rfl, i1, i2, d4, m4⟩
    obtain ⟨i, rfl⟩ := Int.eq_ofNat_of_zero_le i1
    have hi : i < B.length := by omega
    have o4 := own_kept o3 m4 (fun x hx hm => by simp at hm; subst hm; exact hrbG hx)
    have k4 := k3.trans m4
    have F4 := FsN.of o4 (by omega) (fun b hb => by have := unhide HF b hb; omega)
    obtain ⟨pc, c0⟩ := o4.out i hi
    have hb4 : B[i].ps.length = 4 := (unhide HF).at i hi
    have hpc := o4.caps i hi _ _ _ c0
    rw [hb4] at c0 hpc
    have f0 : w4.frozen? ⟨g, i * 2, none⟩ = false := by have := (o4.room (i * 2) (by omega)).2; rwa [Nat.zero_add] at this
    have hgi : G[i]'(by have := o4.len; omega) ∈ g :: G := List.mem_cons_of_mem _ (List.getElem_mem _)
    have hgl := o4.lo g (by simp)
    have hne : g ≠ rb := fun e => hrbG (e ▸ (by simp))
    generalize G[i]'(by have := o4.len; omega) = gi at *
    have F5 := F4.less i hi gi 0 pc (pc - 1) (by rw [Nat.zero_add, hb4]; exact c0) (by omega) (by omega)
    rw [hb4, Nat.zero_add] at F5
    have kz := kept_cell w4 g (i * 2) (.slice (some ⟨gi, 5, none⟩) 3 (pc - 1))
    have d5 := rd_set d4 kz hne (by omega) (by omega)
    have k5 := k4.then kz (fun y hy => by simp at hy; subst hy; right; omega)
    have hl5 : (B.set i ⟨B[i].ps.tail, B[i].wn⟩).length = 4 := by simp; omega
    clear F4 o4 o3 d3 k3 k4 d4
    go_wp2
    go_ret
    exact unhide HDONE g 0 c _ (p1 + 1 + 1) _ _ (by rw [hl5]; rfl) F5 (by omega) (by omega) d5 k5 (fun q => by have := ok_fours q _ (List.mem_of_getElem? (show (B.set i ⟨B[i].ps.tail, B[i].wn⟩)[i]? = some _ from List.getElem?_set_self hi)); simp at this; omega)
  have F3 := FsN.of o3 (by omega) (fun b hb => by have := unhide HF b hb; omega)
  go_wp2
  go_ret
  exact unhide HDONE g 0 c _ (p1 + 1) w3 _ (by rw [hB4]; rfl) F3 (by omega) (by omega) d3 k3 (fun _ => ⟨rfl, hc4, G, o3⟩)
theorem flash_any (u w0 w : World) (rb : Nat) (a : Option Addr) (len cap : Nat) (p : Int) (hr : Row w0 a len) (hl : len ≤ 10000) (h : Rd u w0 rb a len cap p w) (hp0 : 0 ≤ p) (hp : p ≤ 1000) :
    Calls Try.prog 40 #[.pointer (some ⟨rb, 0, none⟩)] w fun e w' => FlPost u w0 w rb a len cap p e w' := by
  refine (flash_own u w0 w rb a len cap p hr hl h hp0 hp).mono ?_
  rintro e w' ⟨g, o, c, bs, p', h1, h2, h3, h4, h5, h6, _⟩
  exact ⟨g, o, c, bs, p', h1, h2, h3, h4, h5, h6⟩
end Go.Proofs.Ytkikeapfjpnkgaa.FlB

/-
  Blocks that are drawn, and one of them.
-/
namespace Go.Proofs.Ytkikeapfjpnkgaa.ClA
open Go.ChangeShapes Go.WideShapes Go.ChangeAt Go.RowKit Go.Shelf Big Fl ImplF ImplL Kp StA RmA DoA AlA DpA NwA Pick Draw EvA ImplB ImplS ImplU SpecC SpecD SpecW ImplW PyA FlB
set_option linter.unusedVariables false
set_option linter.unusedSimpArgs false
attribute [local go_sem ↓] Go.wp_at_zero Go.wp_at_succ

theorem FsN.mono {lo lo' g o : Nat} {w : World} {bs : List Bk} (h : FsN lo w g o bs) (hl : lo' ≤ lo) : FsN lo' w g o bs :=
  ⟨Nat.le_trans hl h.glo, h.ghi, fun i hi => by
    obtain ⟨pb, po, pc, h1, h2, h3, h4, h5⟩ := h.bk i hi
    exact ⟨pb, po, pc, h1, h2, h3, Nat.le_trans hl h4, h5⟩, h.four, h.pgs, h.ap⟩
theorem FsN.below {lo g o : Nat} {w w' : World} {bs : List Bk} (h : FsN lo w g o bs) (hb : Below w.heap.size w w') : FsN lo w' g o bs := h.kept (L := []) (Kept.of hb) (by simp)

def DfPost (w : World) (e : Ending) (w' : World) : Prop := ∃ g o c bs k, e = .returned (.tuple #[.slice (some ⟨g, o, none⟩) bs.length c, .int .i64 k]) ∧ FsN w.heap.size w' g o bs ∧ 0 ≤ k ∧ k ≤ 7 ∧ Below w.heap.size w w'
theorem here : True := trivial
end Go.Proofs.Ytkikeapfjpnkgaa.ClA

/-
  Blocks that are drawn: alone; with one of them and whether it falls; with an address.
-/
namespace Go.Proofs.Ytkikeapfjpnkgaa.DrB
open Go.ChangeShapes Go.WideShapes Go.ChangeAt Go.RowKit Go.Shelf Big Fl ImplF ImplL Kp StA RmA DoA AlA DpA NwA Pick Draw EvA ImplB ImplS ImplU SpecC SpecD SpecW ImplW PyA FlB ClA
set_option linter.unusedVariables false
set_option linter.unusedSimpArgs false
attribute [local go_sem ↓] Go.wp_at_zero Go.wp_at_succ

def DnPost (w : World) (e : Ending) (w' : World) : Prop := ∃ g o c bs, e = .returned (.slice (some ⟨g, o, none⟩) bs.length c) ∧ FsN w.heap.size w' g o bs ∧ Below w.heap.size w w'

set_option maxRecDepth 100000 in
set_option maxHeartbeats 2000000 in
theorem drawOld_any (w : World) (a : Option Addr) (len cap : Nat) (zs : List Int) (h : IsRow .u8 w a len cap zs) :
    Calls Try.prog 28 #[.slice a len cap] w fun e w' => DnPost w e w' := by
  have HO := hide (open_any w a len cap zs h)
  go_enter Try.func28, Try.ntmps28
  go_wp2_with fail
  refine (unhide HO).mono ?_
  rintro e w1 ⟨rfl, len', hl', hrow, d1⟩
  have hlt := d1.lt
  clear HO
  go_wp2_with fail
  refine (flash_any w w w1 w.heap.size a len' cap 0 hrow hl' d1 (by omega) (by omega)).mono ?_
  rintro e w2 ⟨g, o, c, bs, p', rfl, F2, hp0, hp1, d2, k2⟩
  have F4 := FsN.mono F2 (Nat.le_of_lt hlt)
  have b4 := d2.bel
  clear d1 d2 k2 F2
  go_wp2
  go_ret
  exact ⟨g, o, c, bs, rfl, F4, b4⟩

def DwPost (w : World) (e : Ending) (w' : World) : Prop := ∃ g o c bs k torn, e = .returned (.tuple #[.slice (some ⟨g, o, none⟩) bs.length c, .int .i64 k, .bool torn]) ∧ FsN w.heap.size w' g o bs ∧ 0 ≤ k ∧ k ≤ 7 ∧ Below w.heap.size w w'
def DlPost (w : World) (e : Ending) (w' : World) : Prop := ∃ g o c bs k, e = .returned (.tuple #[.slice (some ⟨g, o, none⟩) bs.length c, .int .i64 k]) ∧ FsN w.heap.size w' g o bs ∧ 1 ≤ k ∧ k ≤ 12 ∧ Below w.heap.size w w'
theorem here : True := trivial
end Go.Proofs.Ytkikeapfjpnkgaa.DrB
