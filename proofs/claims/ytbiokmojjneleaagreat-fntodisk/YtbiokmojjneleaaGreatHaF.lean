/-
  Texts that belong together, one behind the other: SpecD, SpecN, SpecW, SpecX, SpecY.
-/
import Derived.Test.YtbiokmojjneleaaGreatHaE
import Derived.Test.YtbiokmojjneleaaGreatHaA

/-
  The specification's search for a number, and its writing on blocks that it owns.
-/
namespace Go.Proofs.YtbiokmojjneleaaGreat.SpecD
open Go.ChangeShapes Go.WideShapes Go.ChangeAt Go.RowKit OkA Big Fl ImplB ImplF ImplS _root_.Go.Proofs.YtbiokmojjneleaaGreat.Own ImplT ImplU SpecA SpecB SpecC Kp
set_option linter.unusedVariables false
set_option linter.unusedSimpArgs false
attribute [local go_sem ↓] Go.wp_at_zero Go.wp_at_succ

def hasB (bs : List Bk) (q : Int) : Bool := (seqs bs).contains q
set_option maxHeartbeats 1000000 in
theorem seq_any (fb fo cap : Nat) (bs : List Bk) (q : Int) (w : World) (hF : Fours bs) (h4 : bs.length = 4) (hf : ∀ i (hi : i < bs.length), BkAt w fb (fo + i * 2) bs[i]) :
    Calls Tryz.prog 137 #[.slice (some ⟨fb, fo, none⟩) 4 cap, .int .i64 q] w fun e w' => e = .returned (.bool (hasB bs q)) ∧ w' = w := by
  have HF := hide hf
  clear hf
  go_enter Tryz.func137, Tryz.ntmps137
  go_wp2
  go_loop [5] (fun i => ∃ k : Nat, k ≤ 4 ∧ i = .int .i64 k ∧ Hid (q ∉ seqs (bs.take k))) (fun i => 4 - (intOf i).toNat)
  case atStart => exact ⟨0, by omega, rfl, by simp [Hid, seqs]⟩
  case round =>
    obtain ⟨k, hk, rfl, hnd⟩ := hrel
    by_cases h0 : k = 4
    · subst h0
      have HN := hide (show hasB bs q = false by unfold hasB; have := hnd.out; rw [List.take_of_length_le (by omega)] at this; simpa using this)
      go_wp2
      go_ret
      exact ⟨by rw [unhide HN]; rfl, rfl⟩
    · have hlt : (k : Int) < 4 := by omega
      have hkb : k < bs.length := by omega
      have hlo : (0 : Int) ≤ (k : Int) := by omega
      have hb4 : bs[k].ps.length = 4 := hF.at k hkb
      obtain ⟨pa, pc, c0, c1, hps⟩ := unhide HF k hkb
      obtain ⟨pb, po, rfl, hr⟩ : ∃ pb po, pa = some ⟨pb, po, none⟩ ∧ w.rangeAt pb po (psC bs[k].ps) := by
        rcases hps with h | h
        · rw [h] at hb4; simp at hb4
        · exact h
      rw [hb4] at c0
      have HR := hide hr
      have HSP := hide (seqs_split bs k hkb)
      have HST := hide (seqs_take bs k hkb)
      clear hps hr c1
      generalize bs[k] = b at *
      go_wp2
      go_loop [6] (fun i => ∃ j : Nat, j ≤ 4 ∧ i = .int .i64 j ∧ Hid (q ∉ seqsP (b.ps.take j))) (fun i => 4 - (intOf i).toNat)
      case atStart => exact ⟨0, by omega, rfl, by simp [Hid, seqsP]⟩
      case round =>
        obtain ⟨j, hj, rfl, hnj⟩ := hrel
        by_cases h0 : j = 4
        · subst h0
          go_wp2
          go_round
          case rel =>
            refine ⟨k + 1, by omega, by first | rfl | go_num, ?_⟩
            show q ∉ _
            rw [unhide HST]; have := hnj.out; rw [List.take_of_length_le (l := b.ps) (by omega)] at this
            have h2 := hnd.out
            simp only [List.mem_append]; exact fun h => h.elim h2 this
          case measure => simp [intOf]; omega
        · have hjt : (j : Int) < 4 := by omega
          have hjb : j < b.ps.length := by omega
          have hjo : (0 : Int) ≤ (j : Int) := by omega
          obtain ⟨d0, _, d2, _, _⟩ := PsAt.cells (unhide HR) j hjb
          have HSQ := hide (seqsP_take b.ps j hjb)
          have HDW := hide (drop_w b.ps j hjb)
          generalize b.ps[j] = p at *
          by_cases hp1 : p.st = 1
          · by_cases hpq : p.s = q
            · have g1 : (p.st == 1) = true := by simpa using hp1
              have g2 : (p.s == q) = true := by simpa using hpq
              have hp1h := hide hp1
              have hpqh := hide hpq
              clear hp1 hpq
              go_wp2
              have HN := hide (show hasB bs q = true from by
                unfold hasB
                rw [unhide HSP j, unhide HDW (unhide hp1h), unhide hpqh]
                simp)
              go_ret
              exact ⟨by rw [unhide HN]; rfl, rfl⟩
            · have g1 : (p.st == 1) = true := by simpa using hp1
              have g2 : (p.s == q) = false := by simpa using hpq
              have hp1h := hide hp1
              have hpqh := hide hpq
              clear hp1 hpq
              go_wp2
              go_round
              case rel =>
                have e : seqsP (b.ps.take (j + 1)) = seqsP (b.ps.take j) ++ [p.s] := by rw [unhide HSQ, seqP_w (unhide hp1h)]; rfl
                refine ⟨j + 1, by omega, by first | rfl | go_num, ?_⟩
                show q ∉ _
                rw [e]
                have h2 := hnj.out
                have h3 := unhide hpqh
                simp only [List.mem_append, List.mem_singleton]
                exact fun h => h.elim h2 (fun h => h3 h.symm)
              case measure => simp [intOf]; omega
          · have hp1' : (p.st == 1) = false := by simpa using hp1
            have hp1h := hide hp1
            clear hp1
            go_wp2
            go_round
            case rel =>
              have e : seqsP (b.ps.take (j + 1)) = seqsP (b.ps.take j) := by rw [unhide HSQ, seqP_n (unhide hp1h)]; simp
              exact ⟨j + 1, by omega, by first | rfl | go_num, by rw [e]; exact hnj⟩
            case measure => simp [intOf]; omega

/-! A page is laid over a page. -/
theorem Own.page {w : World} {lo g n : Nat} {G : List Nat} {bs : List Bk} (h : Own w lo g G bs n) (k : Nat) (hk : k < bs.length) (j : Nat) (hj : j < bs[k].ps.length) (p : Pg) :
    Own (w.setCells (G[k]'(by have := h.len; omega)) (j * 5) (pgC p)) lo g G (bs.set k ⟨bs[k].ps.set j p, bs[k].wn⟩) n := by
  have hlen := h.len
  have hGg : ∀ i (hi : i < G.length), G[i] ≠ g := fun i hi e => (List.nodup_cons.1 h.nd).1 (e ▸ List.getElem_mem hi)
  have hGG : ∀ i (hi : i < G.length), i ≠ k → G[i] ≠ G[k]'(by omega) := fun i hi hne e => by
    have hp := List.pairwise_iff_getElem.1 (List.nodup_cons.1 h.nd).2
    rcases Nat.lt_or_gt_of_ne hne with q | q
    · exact hp i k hi (by omega) q e
    · exact hp k i (by omega) hi q e.symm
  have tk : w.there (G[k]'(by omega)) (0 + j * 5) 5 := there_sub (h.free k hk) (j * 5) 5 (by omega)
  refine ⟨by simp [hlen], h.nd, h.lo, fun x hx => by rw [size_setCells]; exact h.hi x hx, by simpa using h.fit, World.there_setCells h.room _ _ _, fun i hi => ?_, fun i hi => ?_, fun i hi => ?_, fun i hi => ?_, fun i hi a m c hc => h.caps i (by simpa using hi) a m c (by rw [cell_setCells_ne (.inl (hGg k (by omega)).symm)] at hc; exact hc)⟩
  · simp only [List.length_set] at hi
    obtain ⟨c, hc⟩ := h.out i hi
    refine ⟨c, ?_⟩
    rw [cell_setCells_ne (.inl (hGg k (by omega)).symm), hc]
    by_cases e : i = k
    · subst e; simp
    · rw [List.getElem_set_ne (fun q => e q.symm)]
  · simp only [List.length_set] at hi
    rw [cell_setCells_ne (.inl (hGg k (by omega)).symm), h.worn i hi]
    by_cases e : i = k
    · subst e; simp
    · rw [List.getElem_set_ne (fun q => e q.symm)]
  · simp only [List.length_set] at hi
    by_cases e : i = k
    · subst e
      simp only [List.getElem_set_self]
      have := range_set pgC 5 (fun _ _ => rfl) j hj p rfl (h.pgs i hk) tk
      rw [Nat.zero_add] at this
      exact this
    · rw [List.getElem_set_ne (fun q => e q.symm)]
      exact World.rangeAt_setCells_apart (h.pgs i hi) _ _ _ (.inl (hGG i (by omega) e))
  · simp only [List.length_set] at hi
    by_cases e : i = k
    · subst e
      simp only [List.getElem_set_self, List.length_set]
      exact World.there_setCells (h.free i hk) _ _ _
    · rw [List.getElem_set_ne (fun q => e q.symm)]
      exact World.there_setCells (h.free i hi) _ _ _

def pgW (torn : Bool) (rk rs ra rv : Int) : Pg := if torn then ⟨2, 0, 0, 0, 0⟩ else ⟨1, rk, rs, ra, rv⟩
def wrL (bs : List Bk) (k : Nat) (p : Pg) : List Bk := bs.set k ⟨(bs.getD k zBk).ps.set (usedN (bs.getD k zBk).ps) p, (bs.getD k zBk).wn⟩
/-- No page is clean, or the number is there. -/
def wrN (bs : List Bk) (k : Nat) (rs : Int) : Bool := usedN (bs.getD k zBk).ps == 4 || hasB bs rs
def WrPost (w : World) (lo g cap : Nat) (G : List Nat) (bs : List Bk) (k : Nat) (torn : Bool) (rk rs ra rv : Int) (e : Ending) (w' : World) : Prop :=
  e = .returned (.tuple #[.slice (some ⟨g, 0, none⟩) 4 cap, .bool (!wrN bs k rs)]) ∧ Own w' lo g G (if wrN bs k rs then bs else wrL bs k (pgW torn rk rs ra rv)) 4 ∧ Kept (g :: G) w w'
theorem size_pg (p : Pg) : (Tryz.prog.info? 66).map (·.size) = some (pgC p).length := by rw [len_pgC]; kernel_rfl
theorem size_pga (p : Pg) : (Tryz.prog.info? 66).map (·.size) = some (pgC p).toArray.size := by rw [List.size_toArray, len_pgC]; kernel_rfl
theorem one_pg (p : Pg) : (pgC p).toArray.all (·.oneCell') = true := all_oneCell_toArray (one_pgC p)

set_option maxRecDepth 100000 in
set_option maxHeartbeats 2000000 in
theorem write_any (lo g cap : Nat) (G : List Nat) (bs : List Bk) (k : Nat) (torn : Bool) (rk rs ra rv : Int) (w : World) (o : Own w lo g G bs 4) (hok : okB bs = true) (hk : k < 4) :
    Calls Tryz.prog 110 #[.slice (some ⟨g, 0, none⟩) 4 cap, .int .i64 k, .agg #[.int .i64 rk, .int .i64 rs, .int .i64 ra, .int .i64 rv], .bool torn] w fun e w' => WrPost w lo g cap G bs k torn rk rs ra rv e w' := by
  have h4 := ok_len hok
  have hF := ok_fours hok
  have hkb : k < bs.length := by omega
  have hb4 := hF.at k hkb
  have hcu := clean_used bs[k].ps (ok_tail hok k hkb)
  have hgd : bs.getD k zBk = bs[k] := by rw [List.getD_eq_getElem?_getD, List.getElem?_eq_getElem hkb]; rfl
  have b0 : Below w.heap.size w (w.alloc (.cells #[.int .i64 rk, .int .i64 rs, .int .i64 ra, .int .i64 rv] 36)) := (Below.refl _ _).alloc (Nat.le_refl _) _
  have o0 := o.below b0 (Nat.le_refl _)
  obtain ⟨pc, c0⟩ := o0.out k hkb
  have c1 := o0.worn k hkb
  have rk0 := o0.pgs k hkb
  have hlen := o0.len
  have hGk := o0.hi (G[k]'(by omega)) (by simp)
  have hgk : g ≠ G[k]'(by omega) := fun e => (List.nodup_cons.1 o0.nd).1 (e ▸ List.getElem_mem _)
  rw [hb4] at c0 hcu
  have hki : (k : Int) < 4 := by omega
  have hk0 : (0 : Int) ≤ (k : Int) := by omega
  have c2 : (w.alloc (.cells #[.int .i64 rk, .int .i64 rs, .int .i64 ra, .int .i64 rv] 36)).rangeAt w.heap.size 0 [.int .i64 rk, .int .i64 rs, .int .i64 ra, .int .i64 rv] := rangeAt_new w _ _
  have hwlt : w.heap.size < (w.alloc (.cells #[.int .i64 rk, .int .i64 rs, .int .i64 ra, .int .i64 rv] 36)).heap.size := by simp
  have HCL := hide (fun w' => l2Clean_any (G[k]'(by omega)) 0 pc bs[k].ps bs[k].wn w' hb4)
  have HN1 : Hid (usedN bs[k].ps = 4 → wrN bs k rs = true) := fun h => by unfold wrN; rw [hgd, h]; rfl
  have HN2 : Hid (hasB bs rs = true → wrN bs k rs = true) := fun h => by unfold wrN; rw [h, Bool.or_true]
  have HN3 : Hid (¬ usedN bs[k].ps = 4 → hasB bs rs = false → wrN bs k rs = false) := fun h h' => by unfold wrN; rw [hgd, h', Bool.or_false]; simpa using h
  have HPG := hide (fun (x : World) (ox : Own x lo g G bs 4) (hu : usedN bs[k].ps < bs[k].ps.length) (p : Pg) => Own.page ox k hkb (usedN bs[k].ps) hu p)
  have HWL : Hid (∀ p, wrL bs k p = bs.set k ⟨bs[k].ps.set (usedN bs[k].ps) p, bs[k].wn⟩) := fun p => by unfold wrL; rw [hgd]
  have HTK := hide (fun (x : World) (ox : Own x lo g G bs 4) => ox.free k hkb)
  have HC0 := hide (fun (x : World) (hb : Below (w.alloc (.cells #[.int .i64 rk, .int .i64 rs, .int .i64 ra, .int .i64 rv] 36)).heap.size (w.alloc (.cells #[.int .i64 rk, .int .i64 rs, .int .i64 ra, .int .i64 rv] 36)) x) => (hb.cell (p := ⟨g, k * 2, none⟩) (o0.hi g (by simp))).trans c0)
  clear o hok
  generalize hGe : G[k]'(by omega) = gk at *
  generalize hbe : bs[k] = b at *
  have HGM : Hid (gk ∈ g :: G) := hGe ▸ (List.mem_cons_of_mem _ (List.getElem_mem _))
  have hgl : lo ≤ gk := hGe ▸ o0.lo _ (List.mem_cons_of_mem _ (List.getElem_mem _))
  have hgl2 : lo ≤ g := o0.lo g (by simp)
  have hg0 := o0.hi g (by simp)
  have HGE := hide hGe
  clear hGe hbe hgd
  have hcl : (cleanN b.ps : Int) ≤ 4 := by omega
  go_enter Tryz.func110, Tryz.ntmps110
  go_wp2_with fail
  refine (unhide HCL _ rk0).mono ?_
  rintro e w1 ⟨rfl, b1⟩
  generalize w.alloc (.cells #[.int .i64 rk, .int .i64 rs, .int .i64 ra, .int .i64 rv] 36) = w0 at *
  have o1 := o0.below b1 (Nat.le_refl _)
  have r1 := rangeAt_below c2 b1 hwlt
  have d0 := unhide HC0 w1 b1
  have e0 := r1 0 _ rfl
  have e1 := r1 1 _ rfl
  have e2 := r1 2 _ rfl
  have e3 := r1 3 _ rfl
  simp only [Nat.zero_add] at e0 e1 e2 e3
  have B1 : Kept (g :: G) w w1 := (Kept.of b0).trans (Kept.of b1)
  have s1 := b1.size
  have hww := b0.size
  clear c0 c1 rk0 c2 b1 HCL r1 o0 b0
  by_cases hz : usedN b.ps = 4
  · have hc : ((cleanN b.ps : Int) == 0) = true := by simp; omega
    have HW := hide (unhide HN1 hz)
    clear hz hcu
    go_wp2
    go_ret2
    refine ⟨by rw [unhide HW]; rfl, ?_, B1⟩
    rw [if_pos (unhide HW)]; exact o1
  have hc : ((cleanN b.ps : Int) == 0) = false := by simp; omega
  have hsq := seq_any g 0 cap bs rs w1 hF h4 (by
    rcases o1.fs with h | ⟨b', o', h1, h2⟩
    · rw [h] at h4; simp at h4
    · simp at h1; obtain ⟨rfl, rfl⟩ := h1; exact h2)
  have HS := hide hsq
  clear hsq
  cases hh : hasB bs rs
  rotate_left
  · have HW := hide (unhide HN2 hh)
    rw [hh] at HS
    clear hh
    go_wp2_with (go_at_call 137; refine (unhide HS).mono ?_; rintro e w' ⟨rfl, hw'⟩; obtain rfl := hw'.symm)
    go_ret2
    refine ⟨by rw [unhide HW]; rfl, ?_, B1⟩
    rw [if_pos (unhide HW)]; exact o1
  have HW := hide (unhide HN3 hz hh)
  rw [hh] at HS
  have hu4 : usedN b.ps < b.ps.length := by have := usedN_le b.ps; omega
  have HU : Hid ((4 : Int) - (cleanN b.ps : Int) = (usedN b.ps : Int)) := by show _ = _; omega
  have HWR : Hid (IntKind.i64.wrap (4 - (cleanN b.ps : Int)) = (usedN b.ps : Int)) := by show _ = _; rw [IntKind.wrap_i64]; omega
  have hu0 : (0 : Int) ≤ (usedN b.ps : Int) := by omega
  have hui : (usedN b.ps : Int) < 4 := by omega
  have hcl0 : (0 : Int) ≤ (cleanN b.ps : Int) := by omega
  clear hh hz hcu
  generalize cleanN b.ps = cl at *
  cases torn
  · go_wp2_with (go_at_call 137; refine (unhide HS).mono ?_; rintro e w' ⟨rfl, hw'⟩; obtain rfl := hw'.symm)
    have hcs : #[Value.int .i64 1, .int .i64 rk, .int .i64 rs, .int .i64 ra, .int .i64 rv] = (pgC ⟨1, rk, rs, ra, rv⟩).toArray := rfl
    rw [hcs]
    clear hcs
    have ba : Below w1.heap.size w1 (w1.alloc (.cells (pgC ⟨1, rk, rs, ra, rv⟩).toArray 66)) := (Below.refl _ _).alloc (Nat.le_refl _) _
    have rp := rangeAt_new w1 (pgC ⟨1, rk, rs, ra, rv⟩) 66
    have o2 := o1.below ba (Nat.le_refl _)
    have op := unhide HPG _ (o2.below ((Below.refl _ _).drew) (Nat.le_refl _)) hu4 ⟨1, rk, rs, ra, rv⟩
    have tk0 := unhide HTK _ o2
    simp only [unhide HGE] at op tk0
    have c0 := d0
    rw [← ba.cell (p := ⟨g, k * 2, none⟩) (by show g < _; omega)] at c0
    have tk : (w1.alloc (.cells (pgC ⟨1, rk, rs, ra, rv⟩).toArray 66)).there gk (usedN b.ps * 5) (pgC ⟨1, rk, rs, ra, rv⟩).toArray.size := by have := there_sub tk0 (usedN b.ps * 5) 5 (by omega); rw [Nat.zero_add] at this; exact this
    have B2 := B1.alloc (.cells (pgC ⟨1, rk, rs, ra, rv⟩).toArray 66)
    rw [← unhide HWL] at op
    have HI5 := hide (size_pga ⟨1, rk, rs, ra, rv⟩)
    have HI6 := hide (size_pg ⟨1, rk, rs, ra, rv⟩)
    have o5 := one_pg ⟨1, rk, rs, ra, rv⟩
    have hpgs : gk < w1.heap.size := by omega
    clear o2 tk0 ba o1 d0 e0 e1 e2 e3 HPG HTK
    generalize usedN b.ps = u at *
    generalize hP : pgC ⟨1, rk, rs, ra, rv⟩ = pcs at *
    clear hP
    generalize w1.alloc (.cells pcs.toArray 66) = w2 at *
    generalize w1.heap.size = pb at *
    have tkd : w2.drew.there gk (u * 5) pcs.toArray.size := (World.there_drew _ _ _ _).2 tk
    refine wp_region_noPanic ?_
    refine wp_region_held_drew (S := fun w' => w'.cell? ⟨g, k * 2, none⟩ = some (.slice (some ⟨gk, 0, none⟩) 4 pc) ∧ w'.rangeAt pb 0 pcs) (by kernel_rfl) (⟨by simpa using c0, by simpa using rp⟩) (fun hHeld => ?_)
    refine takeL 0 (.slice (some ⟨g, 0, none⟩) 4 cap) rfl (by kernel_rfl) (by kernel_rfl) (by kernel_rfl) (fun _ _ _ h => h) (Or.inl ⟨rfl, fun _ _ => rfl⟩) hHeld ?_
    try simp only [Act.put, List.setIfInBounds_toArray, List.set_cons_zero, List.set_cons_succ]
    refine takeL 1 (.int .i64 k) rfl (by kernel_rfl) (by kernel_rfl) (by kernel_rfl) (fun _ _ _ h => h) (Or.inl ⟨rfl, fun _ _ => rfl⟩) hHeld ?_
    try simp only [Act.put, List.setIfInBounds_toArray, List.set_cons_zero, List.set_cons_succ]
    refine takeL 2 (.pointer (some ⟨g, k * 2, none⟩)) rfl (by kernel_rfl) (by kernel_rfl) (by kernel_rfl) (fun _ _ _ h => h) (Or.inl ⟨rfl, fun w9 hSw => by go_simp⟩) hHeld ?_
    try simp only [Act.put, List.setIfInBounds_toArray, List.set_cons_zero, List.set_cons_succ]
    refine takeL 3 (.pointer (some ⟨g, k * 2, none⟩)) rfl (by kernel_rfl) (by kernel_rfl) (by kernel_rfl) (fun _ _ _ h => h) (Or.inl ⟨rfl, fun w9 hSw => by go_simp⟩) hHeld ?_
    try simp only [Act.put, List.setIfInBounds_toArray, List.set_cons_zero, List.set_cons_succ]
    refine takeL 4 (.slice (some ⟨gk, 0, none⟩) 4 pc) rfl (by kernel_rfl) (by kernel_rfl) (by kernel_rfl) (fun _ _ _ h => h) (Or.inl ⟨rfl, fun w9 hSw => by have hc := hSw.1; go_simp⟩) hHeld ?_
    try simp only [Act.put, List.setIfInBounds_toArray, List.set_cons_zero, List.set_cons_succ]
    refine takeL 5 (.int .i64 (cl : Int)) rfl (by kernel_rfl) (by kernel_rfl) (by kernel_rfl) (fun _ _ _ h => h) (Or.inl ⟨rfl, fun _ _ => rfl⟩) hHeld ?_
    try simp only [Act.put, List.setIfInBounds_toArray, List.set_cons_zero, List.set_cons_succ]
    refine takeL 6 (.int .i64 (u : Int)) rfl (by kernel_rfl) (by kernel_rfl) (by kernel_rfl) (fun _ _ _ h => h) (Or.inl ⟨rfl, fun w9 hSw => by have he := unhide HWR; go_simp⟩) hHeld ?_
    try simp only [Act.put, List.setIfInBounds_toArray, List.set_cons_zero, List.set_cons_succ]
    refine takeL 7 (_) rfl (by kernel_rfl) (by kernel_rfl) (by kernel_rfl) (fun _ _ _ h => h) (yieldsIf_load_mid rfl 66 _ rfl pb 0 rfl pcs _ (fun _ h => h.2) Tryz.underlying66 rfl (unhide HI6)) hHeld ?_
    try simp only [Act.put, List.setIfInBounds_toArray, List.set_cons_zero, List.set_cons_succ]
    refine takeL 8 (.pointer (some ⟨gk, u * 5, none⟩)) rfl (by kernel_rfl) (by kernel_rfl) (by kernel_rfl) (fun _ _ _ h => h) (Or.inl ⟨rfl, fun w9 hSw => by go_simp⟩) hHeld ?_
    try simp only [Act.put, List.setIfInBounds_toArray, List.set_cons_zero, List.set_cons_succ]
    refine oneL 9 rfl (by kernel_rfl) rfl (fun K hK => ?_)
    refine wp_store_mid 66 _ _ rfl gk (u * 5) pcs.toArray rfl rfl tkd (unhide HI5) o5 ?_
    refine hK.out _ _ ⟨by rw [cell_setCells_ne (.inl (by omega))]; exact hHeld.1, World.rangeAt_setCells_apart hHeld.2 _ _ _ (.inl (by omega))⟩ (fun hHeld => ?_)
    clear hK K
    try simp only [Act.put, List.setIfInBounds_toArray, List.set_cons_zero, List.set_cons_succ]
    refine wpAnyH_done (by kernel_rfl) ?_ _
    refine NoPanic.normal ?_
    go_wp2
    go_ret2
    refine ⟨by rw [unhide HW]; rfl, ?_, B2.drew.setCells (.inl (unhide HGM)) _ _⟩
    rw [if_neg (by rw [unhide HW]; simp)]
    exact op
  · go_wp2_with (go_at_call 137; refine (unhide HS).mono ?_; rintro e w' ⟨rfl, hw'⟩; obtain rfl := hw'.symm)
    have hcs : #[Value.int .i64 2, .int .i64 0, .int .i64 0, .int .i64 0, .int .i64 0] = (pgC ⟨2, 0, 0, 0, 0⟩).toArray := rfl
    rw [hcs]
    clear hcs
    have ba : Below w1.heap.size w1 (w1.alloc (.cells (pgC ⟨2, 0, 0, 0, 0⟩).toArray 66)) := (Below.refl _ _).alloc (Nat.le_refl _) _
    have rp := rangeAt_new w1 (pgC ⟨2, 0, 0, 0, 0⟩) 66
    have o2 := o1.below ba (Nat.le_refl _)
    have op := unhide HPG _ (o2.below ((Below.refl _ _).drew) (Nat.le_refl _)) hu4 ⟨2, 0, 0, 0, 0⟩
    have tk0 := unhide HTK _ o2
    simp only [unhide HGE] at op tk0
    have c0 := d0
    rw [← ba.cell (p := ⟨g, k * 2, none⟩) (by show g < _; omega)] at c0
    have tk : (w1.alloc (.cells (pgC ⟨2, 0, 0, 0, 0⟩).toArray 66)).there gk (usedN b.ps * 5) (pgC ⟨2, 0, 0, 0, 0⟩).toArray.size := by have := there_sub tk0 (usedN b.ps * 5) 5 (by omega); rw [Nat.zero_add] at this; exact this
    have B2 := B1.alloc (.cells (pgC ⟨2, 0, 0, 0, 0⟩).toArray 66)
    rw [← unhide HWL] at op
    have HI5 := hide (size_pga ⟨2, 0, 0, 0, 0⟩)
    have HI6 := hide (size_pg ⟨2, 0, 0, 0, 0⟩)
    have o5 := one_pg ⟨2, 0, 0, 0, 0⟩
    have hpgs : gk < w1.heap.size := by omega
    clear o2 tk0 ba o1 d0 e0 e1 e2 e3 HPG HTK
    generalize usedN b.ps = u at *
    generalize hP : pgC ⟨2, 0, 0, 0, 0⟩ = pcs at *
    clear hP
    generalize w1.alloc (.cells pcs.toArray 66) = w2 at *
    generalize w1.heap.size = pb at *
    have tkd : w2.drew.there gk (u * 5) pcs.toArray.size := (World.there_drew _ _ _ _).2 tk
    refine wp_region_noPanic ?_
    refine wp_region_held_drew (S := fun w' => w'.cell? ⟨g, k * 2, none⟩ = some (.slice (some ⟨gk, 0, none⟩) 4 pc) ∧ w'.rangeAt pb 0 pcs) (by kernel_rfl) (⟨by simpa using c0, by simpa using rp⟩) (fun hHeld => ?_)
    refine takeL 0 (.slice (some ⟨g, 0, none⟩) 4 cap) rfl (by kernel_rfl) (by kernel_rfl) (by kernel_rfl) (fun _ _ _ h => h) (Or.inl ⟨rfl, fun _ _ => rfl⟩) hHeld ?_
    try simp only [Act.put, List.setIfInBounds_toArray, List.set_cons_zero, List.set_cons_succ]
    refine takeL 1 (.int .i64 k) rfl (by kernel_rfl) (by kernel_rfl) (by kernel_rfl) (fun _ _ _ h => h) (Or.inl ⟨rfl, fun _ _ => rfl⟩) hHeld ?_
    try simp only [Act.put, List.setIfInBounds_toArray, List.set_cons_zero, List.set_cons_succ]
    refine takeL 2 (.pointer (some ⟨g, k * 2, none⟩)) rfl (by kernel_rfl) (by kernel_rfl) (by kernel_rfl) (fun _ _ _ h => h) (Or.inl ⟨rfl, fun w9 hSw => by go_simp⟩) hHeld ?_
    try simp only [Act.put, List.setIfInBounds_toArray, List.set_cons_zero, List.set_cons_succ]
    refine takeL 3 (.pointer (some ⟨g, k * 2, none⟩)) rfl (by kernel_rfl) (by kernel_rfl) (by kernel_rfl) (fun _ _ _ h => h) (Or.inl ⟨rfl, fun w9 hSw => by go_simp⟩) hHeld ?_
    try simp only [Act.put, List.setIfInBounds_toArray, List.set_cons_zero, List.set_cons_succ]
    refine takeL 4 (.slice (some ⟨gk, 0, none⟩) 4 pc) rfl (by kernel_rfl) (by kernel_rfl) (by kernel_rfl) (fun _ _ _ h => h) (Or.inl ⟨rfl, fun w9 hSw => by have hc := hSw.1; go_simp⟩) hHeld ?_
    try simp only [Act.put, List.setIfInBounds_toArray, List.set_cons_zero, List.set_cons_succ]
    refine takeL 5 (.int .i64 (cl : Int)) rfl (by kernel_rfl) (by kernel_rfl) (by kernel_rfl) (fun _ _ _ h => h) (Or.inl ⟨rfl, fun _ _ => rfl⟩) hHeld ?_
    try simp only [Act.put, List.setIfInBounds_toArray, List.set_cons_zero, List.set_cons_succ]
    refine takeL 6 (.int .i64 (u : Int)) rfl (by kernel_rfl) (by kernel_rfl) (by kernel_rfl) (fun _ _ _ h => h) (Or.inl ⟨rfl, fun w9 hSw => by have he := unhide HWR; go_simp⟩) hHeld ?_
    try simp only [Act.put, List.setIfInBounds_toArray, List.set_cons_zero, List.set_cons_succ]
    refine takeL 7 (_) rfl (by kernel_rfl) (by kernel_rfl) (by kernel_rfl) (fun _ _ _ h => h) (yieldsIf_load_mid rfl 66 _ rfl pb 0 rfl pcs _ (fun _ h => h.2) Tryz.underlying66 rfl (unhide HI6)) hHeld ?_
    try simp only [Act.put, List.setIfInBounds_toArray, List.set_cons_zero, List.set_cons_succ]
    refine takeL 8 (.pointer (some ⟨gk, u * 5, none⟩)) rfl (by kernel_rfl) (by kernel_rfl) (by kernel_rfl) (fun _ _ _ h => h) (Or.inl ⟨rfl, fun w9 hSw => by go_simp⟩) hHeld ?_
    try simp only [Act.put, List.setIfInBounds_toArray, List.set_cons_zero, List.set_cons_succ]
    refine oneL 9 rfl (by kernel_rfl) rfl (fun K hK => ?_)
    refine wp_store_mid 66 _ _ rfl gk (u * 5) pcs.toArray rfl rfl tkd (unhide HI5) o5 ?_
    refine hK.out _ _ ⟨by rw [cell_setCells_ne (.inl (by omega))]; exact hHeld.1, World.rangeAt_setCells_apart hHeld.2 _ _ _ (.inl (by omega))⟩ (fun hHeld => ?_)
    clear hK K
    try simp only [Act.put, List.setIfInBounds_toArray, List.set_cons_zero, List.set_cons_succ]
    refine wpAnyH_done (by kernel_rfl) ?_ _
    refine NoPanic.normal ?_
    go_wp2
    go_ret2
    refine ⟨by rw [unhide HW]; rfl, ?_, B2.drew.setCells (.inl (unhide HGM)) _ _⟩
    rw [if_neg (by rw [unhide HW]; simp)]
    exact op
/-- What FlashWrite answers. -/
def wrR (bs : List Bk) (blk : Int) (rk rs ra rv : Int) (torn : Bool) : List Bk :=
  if okB bs && inB blk 0 3 && recB rk rs ra rv then (if wrN bs blk.toNat rs then bs else wrL bs blk.toNat (pgW torn rk rs ra rv)) else []
def wrB (bs : List Bk) (blk : Int) (rk rs ra rv : Int) : Bool := okB bs && inB blk 0 3 && recB rk rs ra rv && !wrN bs blk.toNat rs
def OutPost (w : World) (R : List Bk) (ok : Bool) (e : Ending) (w' : World) : Prop := ∃ v, e = .returned (.tuple #[v, .bool ok]) ∧ NewFs w' w.heap.size v R ∧ Below w.heap.size w w'
end Go.Proofs.YtbiokmojjneleaaGreat.SpecD

/-
  The specification's new blocks: in rows of their own.
-/
namespace Go.Proofs.YtbiokmojjneleaaGreat.SpecN
open Go.ChangeShapes Go.WideShapes Go.ChangeAt Go.RowKit OkA Big Fl ImplB ImplF ImplS _root_.Go.Proofs.YtbiokmojjneleaaGreat.Own ImplT ImplU SpecA SpecB SpecC
set_option linter.unusedVariables false
set_option linter.unusedSimpArgs false

theorem made4' : madeCells #[.int .i64 0, .int .i64 0, .int .i64 0, .int .i64 0, .int .i64 0] 20 = (psC zPs).toArray := by kernel_rfl
theorem made_psl : (Tryz.prog.info? 66).map (fun i => (i.zero, i.size, i.bytes)) = some (some (.agg #[.int .i64 0, .int .i64 0, .int .i64 0, .int .i64 0, .int .i64 0]), 5, 40) := by kernel_rfl

set_option maxHeartbeats 2000000 in
theorem new_any4 (w : World) : Calls Tryz.prog 101 #[] w fun e w' => ∃ g G c, e = .returned (.slice (some ⟨g, 0, none⟩) 4 c) ∧ Own w' w.heap.size g G zFs 4 ∧ Below w.heap.size w w' ∧ 4 ≤ c := by
  have hz4 : zFs.length = 4 := rfl
  have hzb : ∀ k (h : k < zFs.length), zFs[k] = zBk := fun k h => by
    have hm := List.getElem_mem h
    simp only [zFs, List.mem_cons, List.not_mem_nil, or_false, or_self] at hm
    exact hm
  have hzp : zBk.ps = zPs := rfl
  have hzw : zBk.wn = 0 := rfl
  have hz5 : zPs.length = 4 := rfl
  have HM := hide made4'
  generalize zFs = bs at *
  go_enter Tryz.func101, Tryz.ntmps101
  go_wp2
  have o1 : Grow (w.alloc (.cells #[] 125)) w.heap.size (.slice (some ⟨w.heap.size, 0, none⟩) 0 0) [] [] [] := by
    refine ⟨World.ownsRow_lit w #[] 0 (Nat.le_refl _) (by simp [maxLen]) rfl, fun g hg => ?_, rfl, by simp, by simp, by simp, fun i hi => by simp at hi, fun i hi => by simp at hi, fun i hi => by simp at hi, fun i hi => by simp at hi, fun i hi => by simp at hi⟩
    have : w.heap.size = g := Option.some.inj hg
    subst this
    exact ⟨Nat.le_refl _, by simp, by simp⟩
  have b0 : Below w.heap.size w (w.alloc (.cells #[] 125)) := (Below.refl _ _).alloc (Nat.le_refl _) _
  generalize w.alloc (.cells #[] 125) = w1 at *
  go_loopw [1, 2] (fun v i w' => ∃ k : Nat, k ≤ 4 ∧ i = .int .i64 k ∧ (∃ G ocs, Grow w' w.heap.size v G ocs (bs.take k)) ∧ Below w.heap.size w w') (fun _ i _ => 4 - (intOf i).toNat)
  case atStart => exact ⟨0, by omega, rfl, ⟨[], [], by simpa using o1⟩, b0⟩
  case round =>
    obtain ⟨k, hk, rfl, ⟨G, ocs, ok⟩, bw⟩ := hrel
    clear o1 b0
    by_cases h0 : k = 4
    · subst h0
      rw [List.take_of_length_le (by omega)] at ok
      obtain ⟨g, c, rfl, o⟩ := ok.toOwn (by omega)
      have hc4 : 4 ≤ c := by have := row_cap (by omega) ok.row; omega
      rw [hz4] at o
      clear HM
      go_wp2
      go_ret
      exact ⟨g, G, c, by rw [hz4]; rfl, o, bw, hc4⟩
    · have hlt : (k : Int) < 4 := by omega
      have hkb : k < bs.length := by omega
      have tl : (bs.take k).length = k := by simp; omega
      have HT := hide (List.take_succ_eq_append_getElem hkb)
      rw [hzb k hkb] at HT
      have hold := ownB_lt ok
      have hww := bw.size
      have bA : Below wr.heap.size wr (wr.alloc (.cells (psC zPs).toArray 66)) := (Below.refl _ _).alloc (Nat.le_refl _) _
      have rA := rangeAt_new wr (psC zPs) 66
      have tA : (wr.alloc (.cells (psC zPs).toArray 66)).there wr.heap.size 0 20 := there_new wr (psC zPs) 66
      have oA := ok.far bA hold
      have BA := bw.alloc bw.size (.cells (psC zPs).toArray 66)
      have sA : (wr.alloc (.cells (psC zPs).toArray 66)).heap.size = wr.heap.size + 1 := by simp
      have oC := oA.far (B := wr.heap.size + 1) ((Below.refl _ _).alloc (by omega) (.cells #[.slice (some ⟨wr.heap.size, 0, none⟩) 4 4, .int .i64 0] 125)) (fun x hx => by have := hold x hx; omega)
      have BC := BA.alloc BA.size (.cells #[.slice (some ⟨wr.heap.size, 0, none⟩) 4 4, .int .i64 0] 125)
      have rC := World.rangeAt_alloc rA (.cells #[.slice (some ⟨wr.heap.size, 0, none⟩) 4 4, .int .i64 0] 125)
      have tC := World.there_alloc tA (.cells #[.slice (some ⟨wr.heap.size, 0, none⟩) 4 4, .int .i64 0] 125)
      have nC := World.news_of_block (heap_alloc_new (wr.alloc (.cells (psC zPs).toArray 66)) (.cells #[.slice (some ⟨wr.heap.size, 0, none⟩) 4 4, .int .i64 0] 125))
      have sC : ((wr.alloc (.cells (psC zPs).toArray 66)).alloc (.cells #[.slice (some ⟨wr.heap.size, 0, none⟩) 4 4, .int .i64 0] 125)).heap.size = wr.heap.size + 1 + 1 := by simp
      obtain ⟨iB, hiB, hzB, hsB, hbB⟩ := infoB
      have HiB := hide hiB
      have HzB := hide hzB
      have HsB := hide hsB
      have HbB := hide hbB
      have HrC := hide (show ((wr.alloc (.cells (psC zPs).toArray 66)).alloc (.cells #[.slice (some ⟨wr.heap.size, 0, none⟩) 4 4, .int .i64 0] 125)).ownsRow w.heap.size 125 2 u1 k ocs by have := oC.row; rw [tl] at this; exact this)
      rw [sA] at nC
      clear hiB hzB hsB hbB bA rA tA oA BA sA
      go_wp2_with (first | (refine wpList_make_big rfl 123 _ _ rfl 4 rfl rfl 66 5 40 _ Tryz.underlying123 made_psl (by omega) (by omega) ?_; simp only [Value.cells]; rw [unhide HM]) | (refine wpList_append_lies _ rfl _ _ 23 rfl w.heap.size 125 iB (.agg #[.slice none 0 0, .int .i64 0]) 2 32 Tryz.underlying23 (unhide HiB) (unhide HzB) (unhide HsB) (unhide HbB) rfl (by omega) u1 k ocs rfl (unhide HrC) ⟨wr.heap.size + 1, 0, none⟩ 1 1 [.slice (some ⟨wr.heap.size, 0, none⟩) 4 4, .int .i64 0] rfl rfl nC (by intro u hu; simp at hu; rcases hu with rfl | rfl <;> rfl) (by omega) (by simp [maxLen]; omega) (by omega) (by simp; omega) _ sC ?_; intro g' cap' wD ownD growD atD ltD))
      have oD := oC.push wr.heap.size 4 zBk (by omega) (by rw [sC]; omega) (fun h => by have := hold _ (.inl h); omega) (fun h => by have := hold _ (.inr h); omega) rC tC g' cap' (by rw [tl]; exact ownD) growD (by rw [sC]; exact atD) ltD (by rw [sC]; omega) (by decide)
      have BD := BC.trans ((Below.refl w.heap.size _).grown growD (by rw [sC]; omega) (fun q hq => (oC.own q hq).1))
      rw [tl] at oD
      go_roundw
      case rel => exact ⟨k + 1, by omega, by first | rfl | go_num, ⟨G ++ [wr.heap.size], _, by rw [unhide HT]; exact oD⟩, BD⟩
      case measure => simp [intOf]; omega
theorem new_any (w : World) : Calls Tryz.prog 101 #[] w fun e w' => ∃ g G c, e = .returned (.slice (some ⟨g, 0, none⟩) 4 c) ∧ Own w' w.heap.size g G zFs 4 ∧ Below w.heap.size w w' := by
  refine (new_any4 w).mono ?_
  rintro e w' ⟨g, G, c, h1, h2, h3, _⟩
  exact ⟨g, G, c, h1, h2, h3⟩
end Go.Proofs.YtbiokmojjneleaaGreat.SpecN

/-
  The specification's wiping of a block.
-/
namespace Go.Proofs.YtbiokmojjneleaaGreat.SpecW
open Go.ChangeShapes Go.WideShapes Go.ChangeAt Go.RowKit OkA Big Fl ImplB ImplF ImplS _root_.Go.Proofs.YtbiokmojjneleaaGreat.Own ImplT ImplU SpecA SpecB SpecC SpecD Kp
set_option linter.unusedVariables false
set_option linter.unusedSimpArgs false

section
variable {w : World} {lo g n : Nat} {G : List Nat} {bs : List Bk}
theorem apart (h : Own w lo g G bs n) (k : Nat) (hk : k < G.length) : ∀ i (hi : i < G.length), i ≠ k → G[i] ≠ G[k] := fun i hi hne e => by
  have hp := List.pairwise_iff_getElem.1 (List.nodup_cons.1 h.nd).2
  rcases Nat.lt_or_gt_of_ne hne with q | q
  · exact hp i k hi hk q e
  · exact hp k i hk hi q e.symm
theorem outer (h : Own w lo g G bs n) : ∀ i (hi : i < G.length), G[i] ≠ g := fun i hi e => (List.nodup_cons.1 h.nd).1 (e ▸ List.getElem_mem hi)
/-- Pages are laid over pages. -/
theorem pages (h : Own w lo g G bs n) (k : Nat) (hk : k < bs.length) (ps : List Pg) (hl : ps.length = bs[k].ps.length) :
    Own (w.setCells (G[k]'(by have := h.len; omega)) 0 (psC ps)) lo g G (bs.set k ⟨ps, bs[k].wn⟩) n := by
  have hlen := h.len
  have hGg := outer h
  have hGG := apart h k (by omega)
  have tk : w.there (G[k]'(by omega)) 0 (psC ps).length := by rw [len_psC, hl]; exact h.free k hk
  refine ⟨by simp [hlen], h.nd, h.lo, fun x hx => by rw [size_setCells]; exact h.hi x hx, by simpa using h.fit, World.there_setCells h.room _ _ _, fun i hi => ?_, fun i hi => ?_, fun i hi => ?_, fun i hi => ?_, fun i hi a m c hc => h.caps i (by simpa using hi) a m c (by rw [cell_setCells_ne (.inl (hGg k (by omega)).symm)] at hc; exact hc)⟩
  · simp only [List.length_set] at hi
    obtain ⟨c, hc⟩ := h.out i hi
    refine ⟨c, ?_⟩
    rw [cell_setCells_ne (.inl (hGg k (by omega)).symm), hc]
    by_cases e : i = k
    · subst e; simp [hl]
    · rw [List.getElem_set_ne (fun q => e q.symm)]
  · simp only [List.length_set] at hi
    rw [cell_setCells_ne (.inl (hGg k (by omega)).symm), h.worn i hi]
    by_cases e : i = k
    · subst e; simp
    · rw [List.getElem_set_ne (fun q => e q.symm)]
  · simp only [List.length_set] at hi
    by_cases e : i = k
    · subst e
      simp only [List.getElem_set_self]
      intro j v hv
      obtain ⟨hj, rfl⟩ := List.getElem?_eq_some_iff.1 hv
      exact cell_setCells_eq tk j hj
    · rw [List.getElem_set_ne (fun q => e q.symm)]
      exact World.rangeAt_setCells_apart (h.pgs i hi) _ _ _ (.inl (hGG i (by omega) e))
  · simp only [List.length_set] at hi
    refine World.there_setCells ?_ _ _ _
    by_cases e : i = k
    · subst e
      simp only [List.getElem_set_self, hl]
      exact h.free i hk
    · rw [List.getElem_set_ne (fun q => e q.symm)]
      exact h.free i hi
/-- A number of wipings is laid over a number. -/
theorem wear (h : Own w lo g G bs n) (k : Nat) (hk : k < bs.length) (wn : Int) :
    Own (w.setCells g (k * 2 + 1) [.int .i64 wn]) lo g G (bs.set k ⟨bs[k].ps, wn⟩) n := by
  have hlen := h.len
  have hGg := outer h
  have hfit := h.fit
  have tg : w.there g (k * 2 + 1) 1 := by
    have := there_sub h.room (k * 2 + 1) 1 (by omega)
    simpa using this
  have hps : ∀ i (hi : i < bs.length), ((bs.set k ⟨bs[k].ps, wn⟩)[i]'(by simpa using hi)).ps = bs[i].ps := fun i hi => by
    by_cases e : i = k
    · subst e; simp
    · rw [List.getElem_set_ne (fun q => e q.symm)]
  refine ⟨by simp [hlen], h.nd, h.lo, fun x hx => by rw [size_setCells]; exact h.hi x hx, by simpa using h.fit, World.there_setCells h.room _ _ _, fun i hi => ?_, fun i hi => ?_, fun i hi => ?_, fun i hi => ?_, fun i hi a m c hc => h.caps i (by simpa using hi) a m c (by simp only [List.length_set] at hi; rw [cell_setCells_ne (.inr (by simp; omega))] at hc; exact hc)⟩
  · simp only [List.length_set] at hi
    obtain ⟨c, hc⟩ := h.out i hi
    exact ⟨c, by rw [cell_setCells_ne (.inr (by simp; omega)), hc, hps i hi]⟩
  · simp only [List.length_set] at hi
    by_cases e : i = k
    · subst e
      have := cell_setCells_eq (vs := [.int .i64 wn]) tg 0 (by simp)
      simpa using this
    · rw [cell_setCells_ne (.inr (by simp; omega)), List.getElem_set_ne (fun q => e q.symm)]
      exact h.worn i hi
  · simp only [List.length_set] at hi
    rw [hps i hi]
    exact World.rangeAt_setCells_apart (h.pgs i hi) _ _ _ (.inl (hGg i (by omega)))
  · simp only [List.length_set] at hi
    rw [hps i hi]
    exact World.there_setCells (h.free i hi) _ _ _
end
theorem setCells_app (b : Nat) : ∀ (x y : List Value) (d : Nat) (w : World), w.setCells b d (x ++ y) = (w.setCells b d x).setCells b (d + x.length) y
  | [], _, _, _ => rfl
  | v :: r, y, d, w => by
    simp only [List.cons_append, World.setCells, List.length_cons]
    rw [setCells_app b r y (d + 1), show d + 1 + r.length = d + (r.length + 1) by omega]

def pgS (torn : Bool) : Pg := ⟨if torn then 2 else 0, 0, 0, 0, 0⟩
def wiB (b : Bk) (torn : Bool) : Bk := ⟨List.replicate 4 (pgS torn), b.wn + 1⟩
def wiL (bs : List Bk) (k : Nat) (torn : Bool) : List Bk := bs.set k (wiB (bs.getD k zBk) torn)
def wiN (bs : List Bk) (k : Nat) : Bool := decide (200 ≤ (bs.getD k zBk).wn)
def WiPost (w : World) (lo g cap : Nat) (G : List Nat) (bs : List Bk) (k : Nat) (torn : Bool) (e : Ending) (w' : World) : Prop :=
  e = .returned (.tuple #[.slice (some ⟨g, 0, none⟩) 4 cap, .bool (!wiN bs k)]) ∧ Own w' lo g G (if wiN bs k then bs else wiL bs k torn) 4 ∧ Kept (g :: G) w w'
theorem wipe_step (w : World) (gb j : Nat) (p : Pg) : w.setCells gb 0 (psC (List.replicate (j + 1) p)) = (w.setCells gb 0 (psC (List.replicate j p))).setCells gb (j * 5) (pgC p) := by
  have e : psC (List.replicate (j + 1) p) = psC (List.replicate j p) ++ pgC p := by rw [List.replicate_succ']; simp [psC]
  rw [e, setCells_app, len_psC, List.length_replicate, Nat.zero_add]
theorem ok_worn {bs : List Bk} (h : okB bs = true) (k : Nat) (hk : k < bs.length) : 0 ≤ bs[k].wn ∧ bs[k].wn ≤ 200 := by
  simp only [okB, Bool.and_eq_true, List.all_eq_true] at h
  have := h.1.2 bs[k] (List.getElem_mem hk)
  simp only [bkB, Bool.and_eq_true, inB, decide_eq_true_eq] at this
  exact this.1.1.2

set_option maxRecDepth 100000 in
set_option maxHeartbeats 1000000 in
theorem wipe_any (lo g cap : Nat) (G : List Nat) (bs : List Bk) (k : Nat) (torn : Bool) (w : World) (o : Own w lo g G bs 4) (hok : okB bs = true) (hk : k < 4) :
    Calls Tryz.prog 109 #[.slice (some ⟨g, 0, none⟩) 4 cap, .int .i64 k, .bool torn] w fun e w' => WiPost w lo g cap G bs k torn e w' := by
  have h4 := ok_len hok
  have hF := ok_fours hok
  have hkb : k < bs.length := by omega
  have hb4 := hF.at k hkb
  obtain ⟨hw0, hw2⟩ := ok_worn hok k hkb
  have hgd : bs.getD k zBk = bs[k] := by rw [List.getD_eq_getElem?_getD, List.getElem?_eq_getElem hkb]; rfl
  have hlen := o.len
  obtain ⟨pc, c0⟩ := o.out k hkb
  have c1 := o.worn k hkb
  rw [hb4] at c0
  have hki : (k : Int) < 4 := by omega
  have hk0 : (0 : Int) ≤ (k : Int) := by omega
  have hgk : g ≠ G[k]'(by omega) := fun e => outer o k (by omega) e.symm
  have hgl2 : lo ≤ g := o.lo g (by simp)
  have hgl : lo ≤ G[k]'(by omega) := o.lo _ (List.mem_cons_of_mem _ (List.getElem_mem _))
  have f1 : w.frozen? ⟨g, k * 2 + 1, none⟩ = false := by
    have := (o.room (k * 2 + 1) (by omega)).2
    rwa [Nat.zero_add] at this
  have OW := hide (wear o k hkb (bs[k].wn + 1))
  have OP : Hid (Own ((w.setCells g (k * 2 + 1) [.int .i64 (bs[k].wn + 1)]).setCells (G[k]'(by omega)) 0 (psC (List.replicate 4 (pgS torn)))) lo g G (wiL bs k torn) 4) := by
    have := pages (unhide OW) k (by simpa using hkb) (List.replicate 4 (pgS torn)) (by simp [hb4])
    simp only [List.getElem_set_self, List.set_set] at this
    unfold wiL wiB; rw [hgd]; exact this
  have HTK := hide (World.there_setCells (o.free k hkb) g (k * 2 + 1) [.int .i64 (bs[k].wn + 1)])
  rw [hb4] at HTK
  have HN : Hid (wiN bs k = decide (200 ≤ bs[k].wn)) := by unfold wiN; rw [hgd]; rfl
  have HP : Hid (∀ t : Bool, (pgC (pgS t)) = [.int .i64 (if t then 2 else 0), .int .i64 0, .int .i64 0, .int .i64 0, .int .i64 0]) := fun t => rfl
  clear hok hF OW hgd
  have HGM : Hid (G[k]'(by omega) ∈ g :: G) := List.mem_cons_of_mem _ (List.getElem_mem _)
  generalize G[k]'(by omega) = gk at *
  generalize bs[k] = b at *
  go_enter Tryz.func109, Tryz.ntmps109
  by_cases hw : 200 ≤ b.wn
  · have HW : Hid (wiN bs k = true) := by show _ = _; rw [unhide HN]; simpa using hw
    go_wp2
    go_ret2
    refine ⟨by rw [unhide HW]; rfl, ?_, Kept.refl _ _⟩
    rw [if_pos (unhide HW)]; exact o
  · have HW : Hid (wiN bs k = false) := by show _ = _; rw [unhide HN]; simpa using hw
    have hC0 : (w.setCells g (k * 2 + 1) [.int .i64 (b.wn + 1)]).cell? ⟨g, k * 2, none⟩ = some (.slice (some ⟨gk, 0, none⟩) 4 pc) := by rw [cell_setCells_ne (.inr (.inl (by omega)))]; exact c0
    have B1 := (Kept.refl (g :: G) w).setCells (b := g) (.inl (by simp)) (k * 2 + 1) [.int .i64 (b.wn + 1)]
    have hsc : w.setCells g (k * 2 + 1) [.int .i64 (b.wn + 1)] = w.setCell ⟨g, k * 2 + 1, none⟩ (.int .i64 (b.wn + 1)) := rfl
    rw [hsc] at hC0 B1 OP HTK
    clear hsc HN
    cases torn
    · go_wp2
      clear o c0 c1 f1
      generalize w.setCell ⟨g, k * 2 + 1, none⟩ (.int .i64 (b.wn + 1)) = w1 at *
      go_loopw [9] (fun i w' => ∃ j : Nat, j ≤ 4 ∧ i = .int .i64 j ∧ Hid (w' = w1.setCells gk 0 (psC (List.replicate j (pgS false))))) (fun i _ => 4 - (intOf i).toNat)
      case atStart => exact ⟨0, by omega, rfl, rfl⟩
      case round =>
        obtain ⟨j, hj, rfl, hwr⟩ := hrel
        by_cases h0 : j = 4
        · subst h0
          go_wp2
          go_ret2
          refine ⟨by rw [unhide HW]; rfl, ?_, ?_⟩
          · rw [if_neg (by rw [unhide HW]; simp), unhide hwr]; exact unhide OP
          · rw [unhide hwr]; exact B1.setCells (.inl (unhide HGM)) _ _
        · have hlt : (j : Int) < 4 := by omega
          have hlo : (0 : Int) ≤ (j : Int) := by omega
          have HS := hide (wipe_step w1 gk j (pgS false))
          rw [← unhide hwr] at HS
          have D0 : wr.cell? ⟨g, k * 2, none⟩ = some (.slice (some ⟨gk, 0, none⟩) 4 pc) := by rw [unhide hwr, cell_setCells_ne (.inl hgk)]; exact hC0
          have T0 : wr.there gk (j * 5) 5 := by
            rw [unhide hwr]
            have := there_sub (World.there_setCells (unhide HTK) gk 0 (psC (List.replicate j (pgS false)))) (j * 5) 5 (by omega)
            rwa [Nat.zero_add] at this
          clear hwr
          obtain ⟨v0, x0⟩ := Option.isSome_iff_exists.1 (T0 0 (by omega)).1
          obtain ⟨v1, x1⟩ := Option.isSome_iff_exists.1 (T0 1 (by omega)).1
          obtain ⟨v2, x2⟩ := Option.isSome_iff_exists.1 (T0 2 (by omega)).1
          obtain ⟨v3, x3⟩ := Option.isSome_iff_exists.1 (T0 3 (by omega)).1
          obtain ⟨v4, x4⟩ := Option.isSome_iff_exists.1 (T0 4 (by omega)).1
          have f0 := (T0 0 (by omega)).2
          have f1 := (T0 1 (by omega)).2
          have f2 := (T0 2 (by omega)).2
          have f3 := (T0 3 (by omega)).2
          have f4 := (T0 4 (by omega)).2
          simp only [Nat.add_zero] at x0 f0
          clear T0
          go_wp2
          go_roundw
          case rel => exact ⟨j + 1, by omega, by first | rfl | go_num, (unhide HS).symm⟩
          case measure => simp [intOf]; omega
    · go_wp2
      clear o c0 c1 f1
      generalize w.setCell ⟨g, k * 2 + 1, none⟩ (.int .i64 (b.wn + 1)) = w1 at *
      go_loopw [9] (fun i w' => ∃ j : Nat, j ≤ 4 ∧ i = .int .i64 j ∧ Hid (w' = w1.setCells gk 0 (psC (List.replicate j (pgS true))))) (fun i _ => 4 - (intOf i).toNat)
      case atStart => exact ⟨0, by omega, rfl, rfl⟩
      case round =>
        obtain ⟨j, hj, rfl, hwr⟩ := hrel
        by_cases h0 : j = 4
        · subst h0
          go_wp2
          go_ret2
          refine ⟨by rw [unhide HW]; rfl, ?_, ?_⟩
          · rw [if_neg (by rw [unhide HW]; simp), unhide hwr]; exact unhide OP
          · rw [unhide hwr]; exact B1.setCells (.inl (unhide HGM)) _ _
        · have hlt : (j : Int) < 4 := by omega
          have hlo : (0 : Int) ≤ (j : Int) := by omega
          have HS := hide (wipe_step w1 gk j (pgS true))
          rw [← unhide hwr] at HS
          have D0 : wr.cell? ⟨g, k * 2, none⟩ = some (.slice (some ⟨gk, 0, none⟩) 4 pc) := by rw [unhide hwr, cell_setCells_ne (.inl hgk)]; exact hC0
          have T0 : wr.there gk (j * 5) 5 := by
            rw [unhide hwr]
            have := there_sub (World.there_setCells (unhide HTK) gk 0 (psC (List.replicate j (pgS true)))) (j * 5) 5 (by omega)
            rwa [Nat.zero_add] at this
          clear hwr
          obtain ⟨v0, x0⟩ := Option.isSome_iff_exists.1 (T0 0 (by omega)).1
          obtain ⟨v1, x1⟩ := Option.isSome_iff_exists.1 (T0 1 (by omega)).1
          obtain ⟨v2, x2⟩ := Option.isSome_iff_exists.1 (T0 2 (by omega)).1
          obtain ⟨v3, x3⟩ := Option.isSome_iff_exists.1 (T0 3 (by omega)).1
          obtain ⟨v4, x4⟩ := Option.isSome_iff_exists.1 (T0 4 (by omega)).1
          have f0 := (T0 0 (by omega)).2
          have f1 := (T0 1 (by omega)).2
          have f2 := (T0 2 (by omega)).2
          have f3 := (T0 3 (by omega)).2
          have f4 := (T0 4 (by omega)).2
          simp only [Nat.add_zero] at x0 f0
          clear T0
          go_wp2
          go_roundw
          case rel => exact ⟨j + 1, by omega, by first | rfl | go_num, (unhide HS).symm⟩
          case measure => simp [intOf]; omega
end Go.Proofs.YtbiokmojjneleaaGreat.SpecW

/-
  The specification's FlashWipe, for every list of blocks.
-/
namespace Go.Proofs.YtbiokmojjneleaaGreat.SpecX
open Go.ChangeShapes Go.WideShapes Go.ChangeAt Go.RowKit OkA Big Fl ImplB ImplF ImplS _root_.Go.Proofs.YtbiokmojjneleaaGreat.Own ImplT ImplU SpecA SpecB SpecC SpecD SpecW
set_option linter.unusedVariables false
set_option linter.unusedSimpArgs false

/-- What FlashWipe answers. -/
def wiR (bs : List Bk) (blk : Int) (torn : Bool) : List Bk :=
  if okB bs && inB blk 0 3 then (if wiN bs blk.toNat then bs else wiL bs blk.toNat torn) else []
def wiO (bs : List Bk) (blk : Int) : Bool := okB bs && inB blk 0 3 && !wiN bs blk.toNat
theorem wiL_len {bs : List Bk} {k : Nat} {t : Bool} : (wiL bs k t).length = bs.length := by simp [wiL]
theorem wiL_fours {bs : List Bk} (h : Fours bs) {k : Nat} {t : Bool} : Fours (wiL bs k t) := fun b hb => by
  rcases List.mem_or_eq_of_mem_set hb with h' | rfl
  · exact h b h'
  · simp [wiB]
theorem fs_at {w : World} {a : Option Addr} {bs : List Bk} (hf : FsAt w a bs) (h : bs.length = 4) : ∃ b o, a = some ⟨b, o, none⟩ ∧ ∀ i (hi : i < bs.length), BkAt w b (o + i * 2) bs[i] := by
  rcases hf with rfl | h'
  · simp at h
  · exact h'
theorem copy4 (fb fo cap : Nat) (bs : List Bk) (w : World) (hF : Fours bs) (h4 : bs.length = 4) (hf : ∀ i (hi : i < bs.length), BkAt w fb (fo + i * 2) bs[i]) :
    Calls Tryz.prog 78 #[.slice (some ⟨fb, fo, none⟩) 4 cap] w fun e w' => ∃ g G c, e = .returned (.slice (some ⟨g, 0, none⟩) 4 c) ∧ Own w' w.heap.size g G bs 4 ∧ Below w.heap.size w w' := by
  have := copy_any fb fo cap bs w hF (by omega) hf (by omega)
  rwa [h4] at this

theorem here : True := trivial
end Go.Proofs.YtbiokmojjneleaaGreat.SpecX

/-
  The specification's FlashWrite, for every list of blocks.
-/
namespace Go.Proofs.YtbiokmojjneleaaGreat.SpecY
open Go.ChangeShapes Go.WideShapes Go.ChangeAt Go.RowKit OkA Big Fl ImplB ImplF ImplS _root_.Go.Proofs.YtbiokmojjneleaaGreat.Own ImplT ImplU SpecA SpecB SpecC SpecD SpecW SpecX
set_option linter.unusedVariables false
set_option linter.unusedSimpArgs false
attribute [local go_sem ↓] Go.wp_at_zero Go.wp_at_succ

theorem wrL_len {bs : List Bk} {k : Nat} {p : Pg} : (wrL bs k p).length = bs.length := by simp [wrL]
theorem wrL_fours {bs : List Bk} (h : Fours bs) {k : Nat} (hk : k < bs.length) {p : Pg} : Fours (wrL bs k p) := fun b hb => by
  have hgd : bs.getD k zBk = bs[k] := by rw [List.getD_eq_getElem?_getD, List.getElem?_eq_getElem hk]; rfl
  rcases List.mem_or_eq_of_mem_set hb with h' | rfl
  · exact h b h'
  · simp only [List.length_set, hgd]; exact h.at k hk

theorem here : True := trivial
end Go.Proofs.YtbiokmojjneleaaGreat.SpecY
