/-
  Texts that belong together, one behind the other: SpecD, SpecW, Ok2, ImplO, SpecX, FindO, Pl.
-/
import Derived.Test.YtcmklcfedeeahaaQ6

/-
  The specification's search for a number, and its writing on blocks that it owns.
-/
namespace Go.Proofs.Ytcmklcfedeeahaa.SpecD
open Go.ChangeShapes Go.WideShapes Go.ChangeAt Go.RowKit OkA Big Fl ImplB ImplF ImplS Own ImplT ImplU SpecA SpecB SpecC Kp
set_option linter.unusedVariables false
set_option linter.unusedSimpArgs false
attribute [local go_sem ↓] Go.wp_at_zero Go.wp_at_succ

def hasB (bs : List Bk) (q : Int) : Bool := (seqs bs).contains q
set_option maxHeartbeats 1000000 in
theorem seq_any (fb fo cap : Nat) (bs : List Bk) (q : Int) (w : World) (hF : Fours bs) (h4 : bs.length = 4) (hf : ∀ i (hi : i < bs.length), BkAt w fb (fo + i * 2) bs[i]) :
    Calls Try.prog 139 #[.slice (some ⟨fb, fo, none⟩) 4 cap, .int .i64 q] w fun e w' => e = .returned (.bool (hasB bs q)) ∧ w' = w := by
  have HF := hide hf
  clear hf
  go_enter Try.func139, Try.ntmps139
  go_wp2
  go_loop [5] (fun i => ∃ k : Nat, k ≤ 4 ∧ i = .int .i64 k ∧ Hid (q ∉ seqs (bs.take k))) (fun i => 4 - (intOf i).toNat)
  case atStart => exact ⟨0, by omega, rfl, by simp [Hid, seqs]⟩
  case round =>
    obtain ⟨k, hk, rfl, hnd⟩ := hrel
    by_cases h0 : k = 4
    · subst h0
      have HN := hide (show hasB bs q = false by unfold hasB; have := hnd.out; rw [List.take_of_length_le (by omega)] at this; simpa using this)
      go_wp2
      go_ret
      exact ⟨by rw [unhide HN]; rfl, rfl⟩
    · have hlt : (k : Int) < 4 := by omega
      have hkb : k < bs.length := by omega
      have hlo : (0 : Int) ≤ (k : Int) := by omega
      have hb4 : bs[k].ps.length = 4 := hF.at k hkb
      obtain ⟨pa, pc, c0, c1, hps⟩ := unhide HF k hkb
      obtain ⟨pb, po, rfl, hr⟩ : ∃ pb po, pa = some ⟨pb, po, none⟩ ∧ w.rangeAt pb po (psC bs[k].ps) := by
        rcases hps with h | h
        · rw [h] at hb4; simp at hb4
        · exact h
      rw [hb4] at c0
      have HR := hide hr
      have HSP := hide (seqs_split bs k hkb)
      have HST := hide (seqs_take bs k hkb)
      clear hps hr c1
      generalize bs[k] = b at *
      go_wp2
      go_loop [6] (fun i => ∃ j : Nat, j ≤ 4 ∧ i = .int .i64 j ∧ Hid (q ∉ seqsP (b.ps.take j))) (fun i => 4 - (intOf i).toNat)
      case atStart => exact ⟨0, by omega, rfl, by simp [Hid, seqsP]⟩
      case round =>
        obtain ⟨j, hj, rfl, hnj⟩ := hrel
        by_cases h0 : j = 4
        · subst h0
          go_wp2
          go_round
          case rel =>
            refine ⟨k + 1, by omega, by first | rfl | go_num, ?_⟩
            show q ∉ _
            rw [unhide HST]; have := hnj.out; rw [List.take_of_length_le (l := b.ps) (by omega)] at this
            have h2 := hnd.out
            simp only [List.mem_append]; exact fun h => h.elim h2 this
          case measure => simp [intOf]; omega
        · have hjt : (j : Int) < 4 := by omega
          have hjb : j < b.ps.length := by omega
          have hjo : (0 : Int) ≤ (j : Int) := by omega
          obtain ⟨d0, _, d2, _, _⟩ := PsAt.cells (unhide HR) j hjb
          have HSQ := hide (seqsP_take b.ps j hjb)
          have HDW := hide (drop_w b.ps j hjb)
          generalize b.ps[j] = p at *
          by_cases hp1 : p.st = 1
          · by_cases hpq : p.s = q
            · have g1 : (p.st == 1) = true := by simpa using hp1
              have g2 : (p.s == q) = true := by simpa using hpq
              have hp1h := hide hp1
              have hpqh := hide hpq
              clear hp1 hpq
              go_wp2
              have HN := hide (show hasB bs q = true from by
                unfold hasB
                rw [unhide HSP j, unhide HDW (unhide hp1h), unhide hpqh]
                simp)
              go_ret
              exact ⟨by rw [unhide HN]; rfl, rfl⟩
            · have g1 : (p.st == 1) = true := by simpa using hp1
              have g2 : (p.s == q) = false := by simpa using hpq
              have hp1h := hide hp1
              have hpqh := hide hpq
              clear hp1 hpq
              go_wp2
              go_round
              case rel =>
                have e : seqsP (b.ps.take (j + 1)) = seqsP (b.ps.take j) ++ [p.s] := by rw [unhide HSQ, seqP_w (unhide hp1h)]; rfl
                refine ⟨j + 1, by omega, by first | rfl | go_num, ?_⟩
                show q ∉ _
                rw [e]
                have h2 := hnj.out
                have h3 := unhide hpqh
                simp only [List.mem_append, List.mem_singleton]
                exact fun h => h.elim h2 (fun h => h3 h.symm)
              case measure => simp [intOf]; omega
          · have hp1' : (p.st == 1) = false := by simpa using hp1
            have hp1h := hide hp1
            clear hp1
            go_wp2
            go_round
            case rel =>
              have e : seqsP (b.ps.take (j + 1)) = seqsP (b.ps.take j) := by rw [unhide HSQ, seqP_n (unhide hp1h)]; simp
              exact ⟨j + 1, by omega, by first | rfl | go_num, by rw [e]; exact hnj⟩
            case measure => simp [intOf]; omega

/-! A page is laid over a page. -/
theorem Own.page {w : World} {lo g n : Nat} {G : List Nat} {bs : List Bk} (h : Own w lo g G bs n) (k : Nat) (hk : k < bs.length) (j : Nat) (hj : j < bs[k].ps.length) (p : Pg) :
    Own (w.setCells (G[k]'(by have := h.len; omega)) (j * 5) (pgC p)) lo g G (bs.set k ⟨bs[k].ps.set j p, bs[k].wn⟩) n := by
  have hlen := h.len
  have hGg : ∀ i (hi : i < G.length), G[i] ≠ g := fun i hi e => (List.nodup_cons.1 h.nd).1 (e ▸ List.getElem_mem hi)
  have hGG : ∀ i (hi : i < G.length), i ≠ k → G[i] ≠ G[k]'(by omega) := fun i hi hne e => by
    have hp := List.pairwise_iff_getElem.1 (List.nodup_cons.1 h.nd).2
    rcases Nat.lt_or_gt_of_ne hne with q | q
    · exact hp i k hi (by omega) q e
    · exact hp k i (by omega) hi q e.symm
  have tk : w.there (G[k]'(by omega)) (0 + j * 5) 5 := there_sub (h.free k hk) (j * 5) 5 (by omega)
  refine ⟨by simp [hlen], h.nd, h.lo, fun x hx => by rw [size_setCells]; exact h.hi x hx, by simpa using h.fit, World.there_setCells h.room _ _ _, fun i hi => ?_, fun i hi => ?_, fun i hi => ?_, fun i hi => ?_⟩
  · simp only [List.length_set] at hi
    obtain ⟨c, hc⟩ := h.out i hi
    refine ⟨c, ?_⟩
    rw [cell_setCells_ne (.inl (hGg k (by omega)).symm), hc]
    by_cases e : i = k
    · subst e; simp
    · rw [List.getElem_set_ne (fun q => e q.symm)]
  · simp only [List.length_set] at hi
    rw [cell_setCells_ne (.inl (hGg k (by omega)).symm), h.worn i hi]
    by_cases e : i = k
    · subst e; simp
    · rw [List.getElem_set_ne (fun q => e q.symm)]
  · simp only [List.length_set] at hi
    by_cases e : i = k
    · subst e
      simp only [List.getElem_set_self]
      have := range_set pgC 5 (fun _ _ => rfl) j hj p rfl (h.pgs i hk) tk
      rw [Nat.zero_add] at this
      exact this
    · rw [List.getElem_set_ne (fun q => e q.symm)]
      exact World.rangeAt_setCells_apart (h.pgs i hi) _ _ _ (.inl (hGG i (by omega) e))
  · simp only [List.length_set] at hi
    by_cases e : i = k
    · subst e
      simp only [List.getElem_set_self, List.length_set]
      exact World.there_setCells (h.free i hk) _ _ _
    · rw [List.getElem_set_ne (fun q => e q.symm)]
      exact World.there_setCells (h.free i hi) _ _ _

def pgW (torn : Bool) (rk rs ra rv : Int) : Pg := if torn then ⟨2, 0, 0, 0, 0⟩ else ⟨1, rk, rs, ra, rv⟩
def wrL (bs : List Bk) (k : Nat) (p : Pg) : List Bk := bs.set k ⟨(bs.getD k zBk).ps.set (usedN (bs.getD k zBk).ps) p, (bs.getD k zBk).wn⟩
/-- No page is clean, or the number is there. -/
def wrN (bs : List Bk) (k : Nat) (rs : Int) : Bool := usedN (bs.getD k zBk).ps == 4 || hasB bs rs
def WrPost (w : World) (lo g cap : Nat) (G : List Nat) (bs : List Bk) (k : Nat) (torn : Bool) (rk rs ra rv : Int) (e : Ending) (w' : World) : Prop :=
  e = .returned (.tuple #[.slice (some ⟨g, 0, none⟩) 4 cap, .bool (!wrN bs k rs)]) ∧ Own w' lo g G (if wrN bs k rs then bs else wrL bs k (pgW torn rk rs ra rv)) 4 ∧ Kept (g :: G) w w'
theorem size_pg (p : Pg) : (Try.prog.info? 75).map (·.size) = some (pgC p).length := by rw [len_pgC]; kernel_rfl
theorem size_pga (p : Pg) : (Try.prog.info? 75).map (·.size) = some (pgC p).toArray.size := by rw [List.size_toArray, len_pgC]; kernel_rfl
theorem one_pg (p : Pg) : (pgC p).toArray.all (·.oneCell') = true := all_oneCell_toArray (one_pgC p)

set_option maxRecDepth 100000 in
set_option maxHeartbeats 2000000 in
theorem write_any (lo g cap : Nat) (G : List Nat) (bs : List Bk) (k : Nat) (torn : Bool) (rk rs ra rv : Int) (w : World) (o : Own w lo g G bs 4) (hok : okB bs = true) (hk : k < 4) :
    Calls Try.prog 108 #[.slice (some ⟨g, 0, none⟩) 4 cap, .int .i64 k, .agg #[.int .i64 rk, .int .i64 rs, .int .i64 ra, .int .i64 rv], .bool torn] w fun e w' => WrPost w lo g cap G bs k torn rk rs ra rv e w' := by
  have h4 := ok_len hok
  have hF := ok_fours hok
  have hkb : k < bs.length := by omega
  have hb4 := hF.at k hkb
  have hcu := clean_used bs[k].ps (ok_tail hok k hkb)
  have hgd : bs.getD k zBk = bs[k] := by rw [List.getD_eq_getElem?_getD, List.getElem?_eq_getElem hkb]; rfl
  have b0 : Below w.heap.size w (w.alloc (.cells #[.int .i64 rk, .int .i64 rs, .int .i64 ra, .int .i64 rv] 59)) := (Below.refl _ _).alloc (Nat.le_refl _) _
  have o0 := o.below b0 (Nat.le_refl _)
  obtain ⟨pc, c0⟩ := o0.out k hkb
  have c1 := o0.worn k hkb
  have rk0 := o0.pgs k hkb
  have hlen := o0.len
  have hGk := o0.hi (G[k]'(by omega)) (by simp)
  have hgk : g ≠ G[k]'(by omega) := fun e => (List.nodup_cons.1 o0.nd).1 (e ▸ List.getElem_mem _)
  rw [hb4] at c0 hcu
  have hki : (k : Int) < 4 := by omega
  have hk0 : (0 : Int) ≤ (k : Int) := by omega
  have c2 : (w.alloc (.cells #[.int .i64 rk, .int .i64 rs, .int .i64 ra, .int .i64 rv] 59)).rangeAt w.heap.size 0 [.int .i64 rk, .int .i64 rs, .int .i64 ra, .int .i64 rv] := rangeAt_new w _ _
  have hwlt : w.heap.size < (w.alloc (.cells #[.int .i64 rk, .int .i64 rs, .int .i64 ra, .int .i64 rv] 59)).heap.size := by simp
  have HCL := hide (fun w' => l2Clean_any (G[k]'(by omega)) 0 pc bs[k].ps bs[k].wn w' hb4)
  have HN1 : Hid (usedN bs[k].ps = 4 → wrN bs k rs = true) := fun h => by unfold wrN; rw [hgd, h]; rfl
  have HN2 : Hid (hasB bs rs = true → wrN bs k rs = true) := fun h => by unfold wrN; rw [h, Bool.or_true]
  have HN3 : Hid (¬ usedN bs[k].ps = 4 → hasB bs rs = false → wrN bs k rs = false) := fun h h' => by unfold wrN; rw [hgd, h', Bool.or_false]; simpa using h
  have HPG := hide (fun (x : World) (ox : Own x lo g G bs 4) (hu : usedN bs[k].ps < bs[k].ps.length) (p : Pg) => Own.page ox k hkb (usedN bs[k].ps) hu p)
  have HWL : Hid (∀ p, wrL bs k p = bs.set k ⟨bs[k].ps.set (usedN bs[k].ps) p, bs[k].wn⟩) := fun p => by unfold wrL; rw [hgd]
  have HTK := hide (fun (x : World) (ox : Own x lo g G bs 4) => ox.free k hkb)
  have HC0 := hide (fun (x : World) (hb : Below (w.alloc (.cells #[.int .i64 rk, .int .i64 rs, .int .i64 ra, .int .i64 rv] 59)).heap.size (w.alloc (.cells #[.int .i64 rk, .int .i64 rs, .int .i64 ra, .int .i64 rv] 59)) x) => (hb.cell (p := ⟨g, k * 2, none⟩) (o0.hi g (by simp))).trans c0)
  clear o hok
  generalize hGe : G[k]'(by omega) = gk at *
  generalize hbe : bs[k] = b at *
  have HGM : Hid (gk ∈ g :: G) := hGe ▸ (List.mem_cons_of_mem _ (List.getElem_mem _))
  have hgl : lo ≤ gk := hGe ▸ o0.lo _ (List.mem_cons_of_mem _ (List.getElem_mem _))
  have hgl2 : lo ≤ g := o0.lo g (by simp)
  have hg0 := o0.hi g (by simp)
  have HGE := hide hGe
  clear hGe hbe hgd
  have hcl : (cleanN b.ps : Int) ≤ 4 := by omega
  go_enter Try.func108, Try.ntmps108
  go_wp2_with fail
  refine (unhide HCL _ rk0).mono ?_
  rintro e w1 ⟨rfl, b1⟩
  generalize w.alloc (.cells #[.int .i64 rk, .int .i64 rs, .int .i64 ra, .int .i64 rv] 59) = w0 at *
  have o1 := o0.below b1 (Nat.le_refl _)
  have r1 := rangeAt_below c2 b1 hwlt
  have d0 := unhide HC0 w1 b1
  have e0 := r1 0 _ rfl
  have e1 := r1 1 _ rfl
  have e2 := r1 2 _ rfl
  have e3 := r1 3 _ rfl
  simp only [Nat.zero_add] at e0 e1 e2 e3
  have B1 : Kept (g :: G) w w1 := (Kept.of b0).trans (Kept.of b1)
  have s1 := b1.size
  have hww := b0.size
  clear c0 c1 rk0 c2 b1 HCL r1 o0 b0
  by_cases hz : usedN b.ps = 4
  · have hc : ((cleanN b.ps : Int) == 0) = true := by simp; omega
    have HW := hide (unhide HN1 hz)
    clear hz hcu
    go_wp2
    go_ret2
    refine ⟨by rw [unhide HW]; rfl, ?_, B1⟩
    rw [if_pos (unhide HW)]; exact o1
  have hc : ((cleanN b.ps : Int) == 0) = false := by simp; omega
  have hsq := seq_any g 0 cap bs rs w1 hF h4 (by
    rcases o1.fs with h | ⟨b', o', h1, h2⟩
    · rw [h] at h4; simp at h4
    · simp at h1; obtain ⟨rfl, rfl⟩ := h1; exact h2)
  have HS := hide hsq
  clear hsq
  cases hh : hasB bs rs
  rotate_left
  · have HW := hide (unhide HN2 hh)
    rw [hh] at HS
    clear hh
    go_wp2_with (go_at_call 139; refine (unhide HS).mono ?_; rintro e w' ⟨rfl, hw'⟩; obtain rfl := hw'.symm)
    go_ret2
    refine ⟨by rw [unhide HW]; rfl, ?_, B1⟩
    rw [if_pos (unhide HW)]; exact o1
  have HW := hide (unhide HN3 hz hh)
  rw [hh] at HS
  have hu4 : usedN b.ps < b.ps.length := by have := usedN_le b.ps; omega
  have HU : Hid ((4 : Int) - (cleanN b.ps : Int) = (usedN b.ps : Int)) := by show _ = _; omega
  have HWR : Hid (IntKind.i64.wrap (4 - (cleanN b.ps : Int)) = (usedN b.ps : Int)) := by show _ = _; rw [IntKind.wrap_i64]; omega
  have hu0 : (0 : Int) ≤ (usedN b.ps : Int) := by omega
  have hui : (usedN b.ps : Int) < 4 := by omega
  have hcl0 : (0 : Int) ≤ (cleanN b.ps : Int) := by omega
  clear hh hz hcu
  generalize cleanN b.ps = cl at *
  cases torn
  · go_wp2_with (go_at_call 139; refine (unhide HS).mono ?_; rintro e w' ⟨rfl, hw'⟩; obtain rfl := hw'.symm)
    have hcs : #[Value.int .i64 1, .int .i64 rk, .int .i64 rs, .int .i64 ra, .int .i64 rv] = (pgC ⟨1, rk, rs, ra, rv⟩).toArray := rfl
    rw [hcs]
    clear hcs
    have ba : Below w1.heap.size w1 (w1.alloc (.cells (pgC ⟨1, rk, rs, ra, rv⟩).toArray 75)) := (Below.refl _ _).alloc (Nat.le_refl _) _
    have rp := rangeAt_new w1 (pgC ⟨1, rk, rs, ra, rv⟩) 75
    have o2 := o1.below ba (Nat.le_refl _)
    have op := unhide HPG _ (o2.below ((Below.refl _ _).drew) (Nat.le_refl _)) hu4 ⟨1, rk, rs, ra, rv⟩
    have tk0 := unhide HTK _ o2
    simp only [unhide HGE] at op tk0
    have c0 := d0
    rw [← ba.cell (p := ⟨g, k * 2, none⟩) (by show g < _; omega)] at c0
    have tk : (w1.alloc (.cells (pgC ⟨1, rk, rs, ra, rv⟩).toArray 75)).there gk (usedN b.ps * 5) (pgC ⟨1, rk, rs, ra, rv⟩).toArray.size := by have := there_sub tk0 (usedN b.ps * 5) 5 (by omega); rw [Nat.zero_add] at this; exact this
    have B2 := B1.alloc (.cells (pgC ⟨1, rk, rs, ra, rv⟩).toArray 75)
    rw [← unhide HWL] at op
    have HI5 := hide (size_pga ⟨1, rk, rs, ra, rv⟩)
    have HI6 := hide (size_pg ⟨1, rk, rs, ra, rv⟩)
    have o5 := one_pg ⟨1, rk, rs, ra, rv⟩
    have hpgs : gk < w1.heap.size := by omega
    clear o2 tk0 ba o1 d0 e0 e1 e2 e3 HPG HTK
    generalize usedN b.ps = u at *
    generalize hP : pgC ⟨1, rk, rs, ra, rv⟩ = pcs at *
    clear hP
    generalize w1.alloc (.cells pcs.toArray 75) = w2 at *
    generalize w1.heap.size = pb at *
    have tkd : w2.drew.there gk (u * 5) pcs.toArray.size := (World.there_drew _ _ _ _).2 tk
    refine wp_region_noPanic ?_
    refine wp_region_held_drew (S := fun w' => w'.cell? ⟨g, k * 2, none⟩ = some (.slice (some ⟨gk, 0, none⟩) 4 pc) ∧ w'.rangeAt pb 0 pcs) (by kernel_rfl) (⟨by simpa using c0, by simpa using rp⟩) (fun hHeld => ?_)
    refine takeL 0 (.slice (some ⟨g, 0, none⟩) 4 cap) rfl (by kernel_rfl) (by kernel_rfl) (by kernel_rfl) (fun _ _ _ h => h) (Or.inl ⟨rfl, fun _ _ => rfl⟩) hHeld ?_
    try simp only [Act.put, List.setIfInBounds_toArray, List.set_cons_zero, List.set_cons_succ]
    refine takeL 1 (.int .i64 k) rfl (by kernel_rfl) (by kernel_rfl) (by kernel_rfl) (fun _ _ _ h => h) (Or.inl ⟨rfl, fun _ _ => rfl⟩) hHeld ?_
    try simp only [Act.put, List.setIfInBounds_toArray, List.set_cons_zero, List.set_cons_succ]
    refine takeL 2 (.pointer (some ⟨g, k * 2, none⟩)) rfl (by kernel_rfl) (by kernel_rfl) (by kernel_rfl) (fun _ _ _ h => h) (Or.inl ⟨rfl, fun w9 hSw => by go_simp⟩) hHeld ?_
    try simp only [Act.put, List.setIfInBounds_toArray, List.set_cons_zero, List.set_cons_succ]
    refine takeL 3 (.pointer (some ⟨g, k * 2, none⟩)) rfl (by kernel_rfl) (by kernel_rfl) (by kernel_rfl) (fun _ _ _ h => h) (Or.inl ⟨rfl, fun w9 hSw => by go_simp⟩) hHeld ?_
    try simp only [Act.put, List.setIfInBounds_toArray, List.set_cons_zero, List.set_cons_succ]
    refine takeL 4 (.slice (some ⟨gk, 0, none⟩) 4 pc) rfl (by kernel_rfl) (by kernel_rfl) (by kernel_rfl) (fun _ _ _ h => h) (Or.inl ⟨rfl, fun w9 hSw => by have hc := hSw.1; go_simp⟩) hHeld ?_
    try simp only [Act.put, List.setIfInBounds_toArray, List.set_cons_zero, List.set_cons_succ]
    refine takeL 5 (.int .i64 (cl : Int)) rfl (by kernel_rfl) (by kernel_rfl) (by kernel_rfl) (fun _ _ _ h => h) (Or.inl ⟨rfl, fun _ _ => rfl⟩) hHeld ?_
    try simp only [Act.put, List.setIfInBounds_toArray, List.set_cons_zero, List.set_cons_succ]
    refine takeL 6 (.int .i64 (u : Int)) rfl (by kernel_rfl) (by kernel_rfl) (by kernel_rfl) (fun _ _ _ h => h) (Or.inl ⟨rfl, fun w9 hSw => by have he := unhide HWR; go_simp⟩) hHeld ?_
    try simp only [Act.put, List.setIfInBounds_toArray, List.set_cons_zero, List.set_cons_succ]
    refine takeL 7 (_) rfl (by kernel_rfl) (by kernel_rfl) (by kernel_rfl) (fun _ _ _ h => h) (yieldsIf_load_mid rfl 75 _ rfl pb 0 rfl pcs _ (fun _ h => h.2) Try.underlying75 rfl (unhide HI6)) hHeld ?_
    try simp only [Act.put, List.setIfInBounds_toArray, List.set_cons_zero, List.set_cons_succ]
    refine takeL 8 (.pointer (some ⟨gk, u * 5, none⟩)) rfl (by kernel_rfl) (by kernel_rfl) (by kernel_rfl) (fun _ _ _ h => h) (Or.inl ⟨rfl, fun w9 hSw => by go_simp⟩) hHeld ?_
    try simp only [Act.put, List.setIfInBounds_toArray, List.set_cons_zero, List.set_cons_succ]
    refine oneL 9 rfl (by kernel_rfl) rfl (fun K hK => ?_)
    refine wp_store_mid 75 _ _ rfl gk (u * 5) pcs.toArray rfl rfl tkd (unhide HI5) o5 ?_
    refine hK.out _ _ ⟨by rw [cell_setCells_ne (.inl (by omega))]; exact hHeld.1, World.rangeAt_setCells_apart hHeld.2 _ _ _ (.inl (by omega))⟩ (fun hHeld => ?_)
    clear hK K
    try simp only [Act.put, List.setIfInBounds_toArray, List.set_cons_zero, List.set_cons_succ]
    refine wpAnyH_done (by kernel_rfl) ?_ _
    refine NoPanic.normal ?_
    go_wp2
    go_ret2
    refine ⟨by rw [unhide HW]; rfl, ?_, B2.drew.setCells (.inl (unhide HGM)) _ _⟩
    rw [if_neg (by rw [unhide HW]; simp)]
    exact op
  · go_wp2_with (go_at_call 139; refine (unhide HS).mono ?_; rintro e w' ⟨rfl, hw'⟩; obtain rfl := hw'.symm)
    have hcs : #[Value.int .i64 2, .int .i64 0, .int .i64 0, .int .i64 0, .int .i64 0] = (pgC ⟨2, 0, 0, 0, 0⟩).toArray := rfl
    rw [hcs]
    clear hcs
    have ba : Below w1.heap.size w1 (w1.alloc (.cells (pgC ⟨2, 0, 0, 0, 0⟩).toArray 75)) := (Below.refl _ _).alloc (Nat.le_refl _) _
    have rp := rangeAt_new w1 (pgC ⟨2, 0, 0, 0, 0⟩) 75
    have o2 := o1.below ba (Nat.le_refl _)
    have op := unhide HPG _ (o2.below ((Below.refl _ _).drew) (Nat.le_refl _)) hu4 ⟨2, 0, 0, 0, 0⟩
    have tk0 := unhide HTK _ o2
    simp only [unhide HGE] at op tk0
    have c0 := d0
    rw [← ba.cell (p := ⟨g, k * 2, none⟩) (by show g < _; omega)] at c0
    have tk : (w1.alloc (.cells (pgC ⟨2, 0, 0, 0, 0⟩).toArray 75)).there gk (usedN b.ps * 5) (pgC ⟨2, 0, 0, 0, 0⟩).toArray.size := by have := there_sub tk0 (usedN b.ps * 5) 5 (by omega); rw [Nat.zero_add] at this; exact this
    have B2 := B1.alloc (.cells (pgC ⟨2, 0, 0, 0, 0⟩).toArray 75)
    rw [← unhide HWL] at op
    have HI5 := hide (size_pga ⟨2, 0, 0, 0, 0⟩)
    have HI6 := hide (size_pg ⟨2, 0, 0, 0, 0⟩)
    have o5 := one_pg ⟨2, 0, 0, 0, 0⟩
    have hpgs : gk < w1.heap.size := by omega
    clear o2 tk0 ba o1 d0 e0 e1 e2 e3 HPG HTK
    generalize usedN b.ps = u at *
    generalize hP : pgC ⟨2, 0, 0, 0, 0⟩ = pcs at *
    clear hP
    generalize w1.alloc (.cells pcs.toArray 75) = w2 at *
    generalize w1.heap.size = pb at *
    have tkd : w2.drew.there gk (u * 5) pcs.toArray.size := (World.there_drew _ _ _ _).2 tk
    refine wp_region_noPanic ?_
    refine wp_region_held_drew (S := fun w' => w'.cell? ⟨g, k * 2, none⟩ = some (.slice (some ⟨gk, 0, none⟩) 4 pc) ∧ w'.rangeAt pb 0 pcs) (by kernel_rfl) (⟨by simpa using c0, by simpa using rp⟩) (fun hHeld => ?_)
    refine takeL 0 (.slice (some ⟨g, 0, none⟩) 4 cap) rfl (by kernel_rfl) (by kernel_rfl) (by kernel_rfl) (fun _ _ _ h => h) (Or.inl ⟨rfl, fun _ _ => rfl⟩) hHeld ?_
    try simp only [Act.put, List.setIfInBounds_toArray, List.set_cons_zero, List.set_cons_succ]
    refine takeL 1 (.int .i64 k) rfl (by kernel_rfl) (by kernel_rfl) (by kernel_rfl) (fun _ _ _ h => h) (Or.inl ⟨rfl, fun _ _ => rfl⟩) hHeld ?_
    try simp only [Act.put, List.setIfInBounds_toArray, List.set_cons_zero, List.set_cons_succ]
    refine takeL 2 (.pointer (some ⟨g, k * 2, none⟩)) rfl (by kernel_rfl) (by kernel_rfl) (by kernel_rfl) (fun _ _ _ h => h) (Or.inl ⟨rfl, fun w9 hSw => by go_simp⟩) hHeld ?_
    try simp only [Act.put, List.setIfInBounds_toArray, List.set_cons_zero, List.set_cons_succ]
    refine takeL 3 (.pointer (some ⟨g, k * 2, none⟩)) rfl (by kernel_rfl) (by kernel_rfl) (by kernel_rfl) (fun _ _ _ h => h) (Or.inl ⟨rfl, fun w9 hSw => by go_simp⟩) hHeld ?_
    try simp only [Act.put, List.setIfInBounds_toArray, List.set_cons_zero, List.set_cons_succ]
    refine takeL 4 (.slice (some ⟨gk, 0, none⟩) 4 pc) rfl (by kernel_rfl) (by kernel_rfl) (by kernel_rfl) (fun _ _ _ h => h) (Or.inl ⟨rfl, fun w9 hSw => by have hc := hSw.1; go_simp⟩) hHeld ?_
    try simp only [Act.put, List.setIfInBounds_toArray, List.set_cons_zero, List.set_cons_succ]
    refine takeL 5 (.int .i64 (cl : Int)) rfl (by kernel_rfl) (by kernel_rfl) (by kernel_rfl) (fun _ _ _ h => h) (Or.inl ⟨rfl, fun _ _ => rfl⟩) hHeld ?_
    try simp only [Act.put, List.setIfInBounds_toArray, List.set_cons_zero, List.set_cons_succ]
    refine takeL 6 (.int .i64 (u : Int)) rfl (by kernel_rfl) (by kernel_rfl) (by kernel_rfl) (fun _ _ _ h => h) (Or.inl ⟨rfl, fun w9 hSw => by have he := unhide HWR; go_simp⟩) hHeld ?_
    try simp only [Act.put, List.setIfInBounds_toArray, List.set_cons_zero, List.set_cons_succ]
    refine takeL 7 (_) rfl (by kernel_rfl) (by kernel_rfl) (by kernel_rfl) (fun _ _ _ h => h) (yieldsIf_load_mid rfl 75 _ rfl pb 0 rfl pcs _ (fun _ h => h.2) Try.underlying75 rfl (unhide HI6)) hHeld ?_
    try simp only [Act.put, List.setIfInBounds_toArray, List.set_cons_zero, List.set_cons_succ]
    refine takeL 8 (.pointer (some ⟨gk, u * 5, none⟩)) rfl (by kernel_rfl) (by kernel_rfl) (by kernel_rfl) (fun _ _ _ h => h) (Or.inl ⟨rfl, fun w9 hSw => by go_simp⟩) hHeld ?_
    try simp only [Act.put, List.setIfInBounds_toArray, List.set_cons_zero, List.set_cons_succ]
    refine oneL 9 rfl (by kernel_rfl) rfl (fun K hK => ?_)
    refine wp_store_mid 75 _ _ rfl gk (u * 5) pcs.toArray rfl rfl tkd (unhide HI5) o5 ?_
    refine hK.out _ _ ⟨by rw [cell_setCells_ne (.inl (by omega))]; exact hHeld.1, World.rangeAt_setCells_apart hHeld.2 _ _ _ (.inl (by omega))⟩ (fun hHeld => ?_)
    clear hK K
    try simp only [Act.put, List.setIfInBounds_toArray, List.set_cons_zero, List.set_cons_succ]
    refine wpAnyH_done (by kernel_rfl) ?_ _
    refine NoPanic.normal ?_
    go_wp2
    go_ret2
    refine ⟨by rw [unhide HW]; rfl, ?_, B2.drew.setCells (.inl (unhide HGM)) _ _⟩
    rw [if_neg (by rw [unhide HW]; simp)]
    exact op
/-- What FlashWrite answers. -/
def wrR (bs : List Bk) (blk : Int) (rk rs ra rv : Int) (torn : Bool) : List Bk :=
  if okB bs && inB blk 0 3 && recB rk rs ra rv then (if wrN bs blk.toNat rs then bs else wrL bs blk.toNat (pgW torn rk rs ra rv)) else []
def wrB (bs : List Bk) (blk : Int) (rk rs ra rv : Int) : Bool := okB bs && inB blk 0 3 && recB rk rs ra rv && !wrN bs blk.toNat rs
def OutPost (w : World) (R : List Bk) (ok : Bool) (e : Ending) (w' : World) : Prop := ∃ v, e = .returned (.tuple #[v, .bool ok]) ∧ NewFs w' w.heap.size v R ∧ Below w.heap.size w w'
end Go.Proofs.Ytcmklcfedeeahaa.SpecD

/-
  The specification's wiping of a block.
-/
namespace Go.Proofs.Ytcmklcfedeeahaa.SpecW
open Go.ChangeShapes Go.WideShapes Go.ChangeAt Go.RowKit OkA Big Fl ImplB ImplF ImplS Own ImplT ImplU SpecA SpecB SpecC SpecD Kp
set_option linter.unusedVariables false
set_option linter.unusedSimpArgs false

section
variable {w : World} {lo g n : Nat} {G : List Nat} {bs : List Bk}
theorem apart (h : Own w lo g G bs n) (k : Nat) (hk : k < G.length) : ∀ i (hi : i < G.length), i ≠ k → G[i] ≠ G[k] := fun i hi hne e => by
  have hp := List.pairwise_iff_getElem.1 (List.nodup_cons.1 h.nd).2
  rcases Nat.lt_or_gt_of_ne hne with q | q
  · exact hp i k hi hk q e
  · exact hp k i hk hi q e.symm
theorem outer (h : Own w lo g G bs n) : ∀ i (hi : i < G.length), G[i] ≠ g := fun i hi e => (List.nodup_cons.1 h.nd).1 (e ▸ List.getElem_mem hi)
/-- Pages are laid over pages. -/
theorem pages (h : Own w lo g G bs n) (k : Nat) (hk : k < bs.length) (ps : List Pg) (hl : ps.length = bs[k].ps.length) :
    Own (w.setCells (G[k]'(by have := h.len; omega)) 0 (psC ps)) lo g G (bs.set k ⟨ps, bs[k].wn⟩) n := by
  have hlen := h.len
  have hGg := outer h
  have hGG := apart h k (by omega)
  have tk : w.there (G[k]'(by omega)) 0 (psC ps).length := by rw [len_psC, hl]; exact h.free k hk
  refine ⟨by simp [hlen], h.nd, h.lo, fun x hx => by rw [size_setCells]; exact h.hi x hx, by simpa using h.fit, World.there_setCells h.room _ _ _, fun i hi => ?_, fun i hi => ?_, fun i hi => ?_, fun i hi => ?_⟩
  · simp only [List.length_set] at hi
    obtain ⟨c, hc⟩ := h.out i hi
    refine ⟨c, ?_⟩
    rw [cell_setCells_ne (.inl (hGg k (by omega)).symm), hc]
    by_cases e : i = k
    · subst e; simp [hl]
    · rw [List.getElem_set_ne (fun q => e q.symm)]
  · simp only [List.length_set] at hi
    rw [cell_setCells_ne (.inl (hGg k (by omega)).symm), h.worn i hi]
    by_cases e : i = k
    · subst e; simp
    · rw [List.getElem_set_ne (fun q => e q.symm)]
  · simp only [List.length_set] at hi
    by_cases e : i = k
    · subst e
      simp only [List.getElem_set_self]
      intro j v hv
      obtain ⟨hj, rfl⟩ := List.getElem?_eq_some_iff.1 hv
      exact cell_setCells_eq tk j hj
    · rw [List.getElem_set_ne (fun q => e q.symm)]
      exact World.rangeAt_setCells_apart (h.pgs i hi) _ _ _ (.inl (hGG i (by omega) e))
  · simp only [List.length_set] at hi
    refine World.there_setCells ?_ _ _ _
    by_cases e : i = k
    · subst e
      simp only [List.getElem_set_self, hl]
      exact h.free i hk
    · rw [List.getElem_set_ne (fun q => e q.symm)]
      exact h.free i hi
/-- A number of wipings is laid over a number. -/
theorem wear (h : Own w lo g G bs n) (k : Nat) (hk : k < bs.length) (wn : Int) :
    Own (w.setCells g (k * 2 + 1) [.int .i64 wn]) lo g G (bs.set k ⟨bs[k].ps, wn⟩) n := by
  have hlen := h.len
  have hGg := outer h
  have hfit := h.fit
  have tg : w.there g (k * 2 + 1) 1 := by
    have := there_sub h.room (k * 2 + 1) 1 (by omega)
    simpa using this
  have hps : ∀ i (hi : i < bs.length), ((bs.set k ⟨bs[k].ps, wn⟩)[i]'(by simpa using hi)).ps = bs[i].ps := fun i hi => by
    by_cases e : i = k
    · subst e; simp
    · rw [List.getElem_set_ne (fun q => e q.symm)]
  refine ⟨by simp [hlen], h.nd, h.lo, fun x hx => by rw [size_setCells]; exact h.hi x hx, by simpa using h.fit, World.there_setCells h.room _ _ _, fun i hi => ?_, fun i hi => ?_, fun i hi => ?_, fun i hi => ?_⟩
  · simp only [List.length_set] at hi
    obtain ⟨c, hc⟩ := h.out i hi
    exact ⟨c, by rw [cell_setCells_ne (.inr (by simp; omega)), hc, hps i hi]⟩
  · simp only [List.length_set] at hi
    by_cases e : i = k
    · subst e
      have := cell_setCells_eq (vs := [.int .i64 wn]) tg 0 (by simp)
      simpa using this
    · rw [cell_setCells_ne (.inr (by simp; omega)), List.getElem_set_ne (fun q => e q.symm)]
      exact h.worn i hi
  · simp only [List.length_set] at hi
    rw [hps i hi]
    exact World.rangeAt_setCells_apart (h.pgs i hi) _ _ _ (.inl (hGg i (by omega)))
  · simp only [List.length_set] at hi
    rw [hps i hi]
    exact World.there_setCells (h.free i hi) _ _ _
end
theorem setCells_app (b : Nat) : ∀ (x y : List Value) (d : Nat) (w : World), w.setCells b d (x ++ y) = (w.setCells b d x).setCells b (d + x.length) y
  | [], _, _, _ => rfl
  | v :: r, y, d, w => by
    simp only [List.cons_append, World.setCells, List.length_cons]
    rw [setCells_app b r y (d + 1), show d + 1 + r.length = d + (r.length + 1) by omega]

def pgS (torn : Bool) : Pg := ⟨if torn then 2 else 0, 0, 0, 0, 0⟩
def wiB (b : Bk) (torn : Bool) : Bk := ⟨List.replicate 4 (pgS torn), b.wn + 1⟩
def wiL (bs : List Bk) (k : Nat) (torn : Bool) : List Bk := bs.set k (wiB (bs.getD k zBk) torn)
def wiN (bs : List Bk) (k : Nat) : Bool := decide (200 ≤ (bs.getD k zBk).wn)
def WiPost (w : World) (lo g cap : Nat) (G : List Nat) (bs : List Bk) (k : Nat) (torn : Bool) (e : Ending) (w' : World) : Prop :=
  e = .returned (.tuple #[.slice (some ⟨g, 0, none⟩) 4 cap, .bool (!wiN bs k)]) ∧ Own w' lo g G (if wiN bs k then bs else wiL bs k torn) 4 ∧ Kept (g :: G) w w'
theorem wipe_step (w : World) (gb j : Nat) (p : Pg) : w.setCells gb 0 (psC (List.replicate (j + 1) p)) = (w.setCells gb 0 (psC (List.replicate j p))).setCells gb (j * 5) (pgC p) := by
  have e : psC (List.replicate (j + 1) p) = psC (List.replicate j p) ++ pgC p := by rw [List.replicate_succ']; simp [psC]
  rw [e, setCells_app, len_psC, List.length_replicate, Nat.zero_add]
theorem ok_worn {bs : List Bk} (h : okB bs = true) (k : Nat) (hk : k < bs.length) : 0 ≤ bs[k].wn ∧ bs[k].wn ≤ 200 := by
  simp only [okB, Bool.and_eq_true, List.all_eq_true] at h
  have := h.1.2 bs[k] (List.getElem_mem hk)
  simp only [bkB, Bool.and_eq_true, inB, decide_eq_true_eq] at this
  exact this.1.1.2

set_option maxRecDepth 100000 in
set_option maxHeartbeats 1000000 in
theorem wipe_any (lo g cap : Nat) (G : List Nat) (bs : List Bk) (k : Nat) (torn : Bool) (w : World) (o : Own w lo g G bs 4) (hok : okB bs = true) (hk : k < 4) :
    Calls Try.prog 112 #[.slice (some ⟨g, 0, none⟩) 4 cap, .int .i64 k, .bool torn] w fun e w' => WiPost w lo g cap G bs k torn e w' := by
  have h4 := ok_len hok
  have hF := ok_fours hok
  have hkb : k < bs.length := by omega
  have hb4 := hF.at k hkb
  obtain ⟨hw0, hw2⟩ := ok_worn hok k hkb
  have hgd : bs.getD k zBk = bs[k] := by rw [List.getD_eq_getElem?_getD, List.getElem?_eq_getElem hkb]; rfl
  have hlen := o.len
  obtain ⟨pc, c0⟩ := o.out k hkb
  have c1 := o.worn k hkb
  rw [hb4] at c0
  have hki : (k : Int) < 4 := by omega
  have hk0 : (0 : Int) ≤ (k : Int) := by omega
  have hgk : g ≠ G[k]'(by omega) := fun e => outer o k (by omega) e.symm
  have hgl2 : lo ≤ g := o.lo g (by simp)
  have hgl : lo ≤ G[k]'(by omega) := o.lo _ (List.mem_cons_of_mem _ (List.getElem_mem _))
  have f1 : w.frozen? ⟨g, k * 2 + 1, none⟩ = false := by
    have := (o.room (k * 2 + 1) (by omega)).2
    rwa [Nat.zero_add] at this
  have OW := hide (wear o k hkb (bs[k].wn + 1))
  have OP : Hid (Own ((w.setCells g (k * 2 + 1) [.int .i64 (bs[k].wn + 1)]).setCells (G[k]'(by omega)) 0 (psC (List.replicate 4 (pgS torn)))) lo g G (wiL bs k torn) 4) := by
    have := pages (unhide OW) k (by simpa using hkb) (List.replicate 4 (pgS torn)) (by simp [hb4])
    simp only [List.getElem_set_self, List.set_set] at this
    unfold wiL wiB; rw [hgd]; exact this
  have HTK := hide (World.there_setCells (o.free k hkb) g (k * 2 + 1) [.int .i64 (bs[k].wn + 1)])
  rw [hb4] at HTK
  have HN : Hid (wiN bs k = decide (200 ≤ bs[k].wn)) := by unfold wiN; rw [hgd]; rfl
  have HP : Hid (∀ t : Bool, (pgC (pgS t)) = [.int .i64 (if t then 2 else 0), .int .i64 0, .int .i64 0, .int .i64 0, .int .i64 0]) := fun t => rfl
  clear hok hF OW hgd
  have HGM : Hid (G[k]'(by omega) ∈ g :: G) := List.mem_cons_of_mem _ (List.getElem_mem _)
  generalize G[k]'(by omega) = gk at *
  generalize bs[k] = b at *
  go_enter Try.func112, Try.ntmps112
  by_cases hw : 200 ≤ b.wn
  · have HW : Hid (wiN bs k = true) := by show _ = _; rw [unhide HN]; simpa using hw
    go_wp2
    go_ret2
    refine ⟨by rw [unhide HW]; rfl, ?_, Kept.refl _ _⟩
    rw [if_pos (unhide HW)]; exact o
  · have HW : Hid (wiN bs k = false) := by show _ = _; rw [unhide HN]; simpa using hw
    have hC0 : (w.setCells g (k * 2 + 1) [.int .i64 (b.wn + 1)]).cell? ⟨g, k * 2, none⟩ = some (.slice (some ⟨gk, 0, none⟩) 4 pc) := by rw [cell_setCells_ne (.inr (.inl (by omega)))]; exact c0
    have B1 := (Kept.refl (g :: G) w).setCells (b := g) (.inl (by simp)) (k * 2 + 1) [.int .i64 (b.wn + 1)]
    have hsc : w.setCells g (k * 2 + 1) [.int .i64 (b.wn + 1)] = w.setCell ⟨g, k * 2 + 1, none⟩ (.int .i64 (b.wn + 1)) := rfl
    rw [hsc] at hC0 B1 OP HTK
    clear hsc HN
    cases torn
    · go_wp2
      clear o c0 c1 f1
      generalize w.setCell ⟨g, k * 2 + 1, none⟩ (.int .i64 (b.wn + 1)) = w1 at *
      go_loopw [9] (fun i w' => ∃ j : Nat, j ≤ 4 ∧ i = .int .i64 j ∧ Hid (w' = w1.setCells gk 0 (psC (List.replicate j (pgS false))))) (fun i _ => 4 - (intOf i).toNat)
      case atStart => exact ⟨0, by omega, rfl, rfl⟩
      case round =>
        obtain ⟨j, hj, rfl, hwr⟩ := hrel
        by_cases h0 : j = 4
        · subst h0
          go_wp2
          go_ret2
          refine ⟨by rw [unhide HW]; rfl, ?_, ?_⟩
          · rw [if_neg (by rw [unhide HW]; simp), unhide hwr]; exact unhide OP
          · rw [unhide hwr]; exact B1.setCells (.inl (unhide HGM)) _ _
        · have hlt : (j : Int) < 4 := by omega
          have hlo : (0 : Int) ≤ (j : Int) := by omega
          have HS := hide (wipe_step w1 gk j (pgS false))
          rw [← unhide hwr] at HS
          have D0 : wr.cell? ⟨g, k * 2, none⟩ = some (.slice (some ⟨gk, 0, none⟩) 4 pc) := by rw [unhide hwr, cell_setCells_ne (.inl hgk)]; exact hC0
          have T0 : wr.there gk (j * 5) 5 := by
            rw [unhide hwr]
            have := there_sub (World.there_setCells (unhide HTK) gk 0 (psC (List.replicate j (pgS false)))) (j * 5) 5 (by omega)
            rwa [Nat.zero_add] at this
          clear hwr
          obtain ⟨v0, x0⟩ := Option.isSome_iff_exists.1 (T0 0 (by omega)).1
          obtain ⟨v1, x1⟩ := Option.isSome_iff_exists.1 (T0 1 (by omega)).1
          obtain ⟨v2, x2⟩ := Option.isSome_iff_exists.1 (T0 2 (by omega)).1
          obtain ⟨v3, x3⟩ := Option.isSome_iff_exists.1 (T0 3 (by omega)).1
          obtain ⟨v4, x4⟩ := Option.isSome_iff_exists.1 (T0 4 (by omega)).1
          have f0 := (T0 0 (by omega)).2
          have f1 := (T0 1 (by omega)).2
          have f2 := (T0 2 (by omega)).2
          have f3 := (T0 3 (by omega)).2
          have f4 := (T0 4 (by omega)).2
          simp only [Nat.add_zero] at x0 f0
          clear T0
          go_wp2
          go_roundw
          case rel => exact ⟨j + 1, by omega, by first | rfl | go_num, (unhide HS).symm⟩
          case measure => simp [intOf]; omega
    · go_wp2
      clear o c0 c1 f1
      generalize w.setCell ⟨g, k * 2 + 1, none⟩ (.int .i64 (b.wn + 1)) = w1 at *
      go_loopw [9] (fun i w' => ∃ j : Nat, j ≤ 4 ∧ i = .int .i64 j ∧ Hid (w' = w1.setCells gk 0 (psC (List.replicate j (pgS true))))) (fun i _ => 4 - (intOf i).toNat)
      case atStart => exact ⟨0, by omega, rfl, rfl⟩
      case round =>
        obtain ⟨j, hj, rfl, hwr⟩ := hrel
        by_cases h0 : j = 4
        · subst h0
          go_wp2
          go_ret2
          refine ⟨by rw [unhide HW]; rfl, ?_, ?_⟩
          · rw [if_neg (by rw [unhide HW]; simp), unhide hwr]; exact unhide OP
          · rw [unhide hwr]; exact B1.setCells (.inl (unhide HGM)) _ _
        · have hlt : (j : Int) < 4 := by omega
          have hlo : (0 : Int) ≤ (j : Int) := by omega
          have HS := hide (wipe_step w1 gk j (pgS true))
          rw [← unhide hwr] at HS
          have D0 : wr.cell? ⟨g, k * 2, none⟩ = some (.slice (some ⟨gk, 0, none⟩) 4 pc) := by rw [unhide hwr, cell_setCells_ne (.inl hgk)]; exact hC0
          have T0 : wr.there gk (j * 5) 5 := by
            rw [unhide hwr]
            have := there_sub (World.there_setCells (unhide HTK) gk 0 (psC (List.replicate j (pgS true)))) (j * 5) 5 (by omega)
            rwa [Nat.zero_add] at this
          clear hwr
          obtain ⟨v0, x0⟩ := Option.isSome_iff_exists.1 (T0 0 (by omega)).1
          obtain ⟨v1, x1⟩ := Option.isSome_iff_exists.1 (T0 1 (by omega)).1
          obtain ⟨v2, x2⟩ := Option.isSome_iff_exists.1 (T0 2 (by omega)).1
          obtain ⟨v3, x3⟩ := Option.isSome_iff_exists.1 (T0 3 (by omega)).1
          obtain ⟨v4, x4⟩ := Option.isSome_iff_exists.1 (T0 4 (by omega)).1
          have f0 := (T0 0 (by omega)).2
          have f1 := (T0 1 (by omega)).2
          have f2 := (T0 2 (by omega)).2
          have f3 := (T0 3 (by omega)).2
          have f4 := (T0 4 (by omega)).2
          simp only [Nat.add_zero] at x0 f0
          clear T0
          go_wp2
          go_roundw
          case rel => exact ⟨j + 1, by omega, by first | rfl | go_num, (unhide HS).symm⟩
          case measure => simp [intOf]; omega
end Go.Proofs.Ytcmklcfedeeahaa.SpecW

/-
  Plain lists: blocks that are ok stay ok when a record is written, or a block is wiped. Nothing here walks the program.
-/
namespace Go.Proofs.Ytcmklcfedeeahaa.Ok2
open Go.ChangeShapes Go.WideShapes Go.ChangeAt Go.RowKit OkA Big Fl ImplB ImplF ImplS Own ImplT ImplU SpecA SpecB SpecC SpecD SpecW
set_option linter.unusedVariables false
set_option linter.unusedSimpArgs false

theorem okB_iff (bs : List Bk) : okB bs = true ↔ bs.length = 4 ∧ (∀ b ∈ bs, bkB b = true) ∧ (seqs bs).Nodup := by
  simp [okB, nodB_iff, and_assoc]
theorem bkB_iff (b : Bk) : bkB b = true ↔ b.ps.length = 4 ∧ (0 ≤ b.wn ∧ b.wn ≤ 200) ∧ (∀ p ∈ b.ps, pgB p = true) ∧ tailB b.ps = true := by
  simp [bkB, inB, and_assoc]
theorem mem_set {α : Type} {l : List α} {k : Nat} {y x : α} (h : x ∈ l.set k y) : x ∈ l ∨ x = y := List.mem_or_eq_of_mem_set h
theorem seqsP_set (ps : List Pg) (u : Nat) (p : Pg) (hu : u < ps.length) (h : seqP ps[u] = none) : (seqsP (ps.set u p)).Perm ((seqP p).toList ++ seqsP ps) := by
  induction ps generalizing u with
  | nil => simp at hu
  | cons q r ih =>
    cases u with
    | zero =>
      simp only [List.getElem_cons_zero] at h
      simp only [List.set_cons_zero, seqsP, List.filterMap_cons, h]
      cases seqP p <;> simp
    | succ u =>
      simp only [List.getElem_cons_succ] at h
      have := ih u (by simpa using hu) h
      simp only [List.set_cons_succ]
      unfold seqsP at this ⊢
      simp only [List.filterMap_cons]
      cases seqP q with
      | none => exact this
      | some x => exact (List.Perm.cons x this).trans List.perm_middle.symm
theorem seqs_set (bs : List Bk) (k : Nat) (b : Bk) (l : List Int) (hk : k < bs.length) (h : (seqsP b.ps).Perm (l ++ seqsP bs[k].ps)) : (seqs (bs.set k b)).Perm (l ++ seqs bs) := by
  induction bs generalizing k with
  | nil => simp at hk
  | cons q r ih =>
    cases k with
    | zero =>
      simp only [List.getElem_cons_zero] at h
      simp only [List.set_cons_zero, seqs, List.flatMap_cons]
      rw [← List.append_assoc]
      exact h.append_right _
    | succ k =>
      simp only [List.getElem_cons_succ] at h
      have := ih k (by simpa using hk) h
      simp only [List.set_cons_succ]
      unfold seqs at this ⊢
      simp only [List.flatMap_cons]
      refine (this.append_left _).trans ?_
      rw [← List.append_assoc, ← List.append_assoc]
      exact List.perm_append_comm.append_right _
theorem seqs_drop (bs : List Bk) (k : Nat) (b : Bk) (hk : k < bs.length) (h : seqsP b.ps = []) : (seqs (bs.set k b)).Sublist (seqs bs) := by
  induction bs generalizing k with
  | nil => simp at hk
  | cons q r ih =>
    cases k with
    | zero => simp only [List.set_cons_zero, seqs, List.flatMap_cons, h, List.nil_append]; exact List.sublist_append_right _ _
    | succ k =>
      have := ih k (by simpa using hk)
      simp only [List.set_cons_succ]
      unfold seqs at this ⊢
      simp only [List.flatMap_cons]
      exact this.append_left _
theorem getD_in (bs : List Bk) (k : Nat) (hk : k < bs.length) : bs.getD k zBk = bs[k] := by rw [List.getD_eq_getElem?_getD, List.getElem?_eq_getElem hk]; rfl
theorem list_four {α : Type} {l : List α} (h : l.length = 4) : ∃ a b c d, l = [a, b, c, d] := by
  match l, h with
  | [a, b, c, d], _ => exact ⟨a, b, c, d, rfl⟩
/-- The first clean page is clean. -/
theorem used_clean (ps : List Pg) (h : usedN ps < ps.length) : clB ps[usedN ps] = true := by
  induction ps with
  | nil => simp at h
  | cons p r ih =>
    by_cases h0 : usedN r = 0
    · cases hc : clB p
      · have e : usedN (p :: r) = 1 := by simp [usedN, h0, hc]
        simp only [e] at h ⊢
        have hr := (usedN_zero r).1 h0
        rw [List.all_eq_true] at hr
        simp only [List.getElem_cons_succ]
        exact hr _ (List.getElem_mem _)
      · have e : usedN (p :: r) = 0 := by simp [usedN, h0, hc]
        simp only [e, List.getElem_cons_zero, hc]
    · have e : usedN (p :: r) = usedN r + 1 := by simp [usedN, h0]
      simp only [e] at h ⊢
      simp only [List.getElem_cons_succ]
      exact ih (by simpa using h)
theorem used_set (ps : List Pg) (h4 : ps.length = 4) (p : Pg) (hp : clB p = false) (h : usedN ps < 4) (ht : tailB ps = true) : tailB (ps.set (usedN ps) p) = true ∧ usedN (ps.set (usedN ps) p) = usedN ps + 1 := by
  obtain ⟨a, b, c, d, rfl⟩ := list_four h4
  revert h ht
  cases ha : clB a <;> cases hb : clB b <;> cases hc : clB c <;> cases hd : clB d <;> simp [usedN, tailB, ha, hb, hc, hd, hp]
theorem pgW_st (torn : Bool) (rk rs ra rv : Int) : clB (pgW torn rk rs ra rv) = false := by cases torn <;> rfl
theorem pgW_ok (torn : Bool) (rk rs ra rv : Int) (h : recB rk rs ra rv = true) : pgB (pgW torn rk rs ra rv) = true := by
  cases torn
  · simpa [pgW, pgB] using h
  · rfl
theorem wrL_len (bs : List Bk) (k : Nat) (p : Pg) : (wrL bs k p).length = bs.length := by simp [wrL]
theorem wrN_no {bs : List Bk} {k : Nat} {rs : Int} (h : wrN bs k rs = false) : usedN (bs.getD k zBk).ps ≠ 4 ∧ hasB bs rs = false := by
  simpa [wrN] using h
theorem okB_wr (bs : List Bk) (k : Nat) (hk : k < 4) (hok : okB bs = true) (torn : Bool) (rk rs ra rv : Int) (hr : recB rk rs ra rv = true) (hn : wrN bs k rs = false) : okB (wrL bs k (pgW torn rk rs ra rv)) = true := by
  obtain ⟨h4, hb, hd⟩ := (okB_iff bs).1 hok
  have hkb : k < bs.length := by omega
  obtain ⟨hu, hh⟩ := wrN_no hn
  have hg := getD_in bs k hkb
  rw [hg] at hu
  obtain ⟨g4, gw, gp, gt⟩ := (bkB_iff _).1 (hb bs[k] (List.getElem_mem hkb))
  have hul : usedN bs[k].ps < bs[k].ps.length := by have := usedN_le bs[k].ps; omega
  have hcl := used_clean _ hul
  obtain ⟨t1, t2⟩ := used_set bs[k].ps g4 (pgW torn rk rs ra rv) (pgW_st _ _ _ _ _) (by omega) gt
  refine (okB_iff _).2 ⟨by rw [wrL_len]; exact h4, fun b hm => ?_, ?_⟩
  · unfold wrL at hm
    rcases mem_set hm with hm | rfl
    · exact hb b hm
    · rw [hg]
      refine (bkB_iff _).2 ⟨by simpa using g4, gw, fun p hp => ?_, t1⟩
      rcases mem_set hp with hp | rfl
      · exact gp p hp
      · exact pgW_ok _ _ _ _ _ hr
  · have hs : seqP bs[k].ps[usedN bs[k].ps] = none := by
      unfold seqP; rw [if_neg]
      simp [clB] at hcl; omega
    have p1 := seqsP_set bs[k].ps (usedN bs[k].ps) (pgW torn rk rs ra rv) hul hs
    have p2 := seqs_set bs k ⟨bs[k].ps.set (usedN bs[k].ps) (pgW torn rk rs ra rv), bs[k].wn⟩ _ hkb p1
    unfold wrL; rw [hg]
    rw [p2.nodup_iff]
    cases torn
    · have : (seqP (pgW false rk rs ra rv)).toList = [rs] := rfl
      rw [this]
      simp only [List.singleton_append, List.nodup_cons]
      exact ⟨by simpa [hasB] using hh, hd⟩
    · exact hd
theorem wiL_len (bs : List Bk) (k : Nat) (torn : Bool) : (wiL bs k torn).length = bs.length := by simp [wiL]
theorem pgS_ok (torn : Bool) : pgB (pgS torn) = true := by cases torn <;> rfl
theorem seqs_wi (torn : Bool) : seqsP (List.replicate 4 (pgS torn)) = [] := by cases torn <;> rfl
theorem tail_wi (torn : Bool) : tailB (List.replicate 4 (pgS torn)) = true := by cases torn <;> rfl
theorem okB_wi (bs : List Bk) (k : Nat) (hk : k < 4) (hok : okB bs = true) (torn : Bool) (hn : wiN bs k = false) : okB (wiL bs k torn) = true := by
  obtain ⟨h4, hb, hd⟩ := (okB_iff bs).1 hok
  have hkb : k < bs.length := by omega
  have hg := getD_in bs k hkb
  obtain ⟨g4, gw, gp, gt⟩ := (bkB_iff _).1 (hb bs[k] (List.getElem_mem hkb))
  unfold wiN at hn; rw [hg] at hn
  simp at hn
  refine (okB_iff _).2 ⟨by rw [wiL_len]; exact h4, fun b hm => ?_, ?_⟩
  · unfold wiL wiB at hm
    rcases mem_set hm with hm | rfl
    · exact hb b hm
    · rw [hg]
      exact (bkB_iff _).2 ⟨by simp, by simp only; omega, fun p hp => by rw [List.eq_of_mem_replicate hp]; exact pgS_ok _, tail_wi _⟩
  · unfold wiL wiB; rw [hg]
    exact hd.sublist (seqs_drop bs k _ hkb (seqs_wi torn))
end Go.Proofs.Ytcmklcfedeeahaa.Ok2

/-
  The program's finding of the block on which the next record is to be written.
-/
namespace Go.Proofs.Ytcmklcfedeeahaa.ImplO
open Go.ChangeShapes Go.WideShapes Go.ChangeAt Go.RowKit OkA Big Fl ImplB ImplF ImplS Own ImplT ImplU SpecA SpecB SpecC SpecD SpecW SpecF SpecG SpecH Ok2
set_option linter.unusedVariables false
set_option linter.unusedSimpArgs false
attribute [local go_sem ↓] Go.wp_at_zero Go.wp_at_succ

def begB (b : Bk) : Bool := inB (usedN b.ps) 1 3
set_option maxHeartbeats 400000 in
theorem begun_any (b : Bk) (h4 : b.ps.length = 4) (w : World) :
    Calls Try.prog 147 #[.agg (bkC b).toArray] w fun e w' => e = .returned (.bool (begB b)) ∧ Below w.heap.size w w' := by
  have r0 := rangeAt_new w (bkC b) 80
  have b0 : Below w.heap.size w (w.alloc (.cells (bkC b).toArray 80)) := (Below.refl _ _).alloc (Nat.le_refl _) _
  have HB : Hid (begB b = inB (usedN b.ps) 1 3) := rfl
  have HS := hide (size_bkl h4)
  have HI := hide (fun (w' : World) => within_any (usedN b.ps) 1 3 w')
  go_enter Try.func147, Try.ntmps147
  go_wp2_with (first | (refine wpList_box_big rfl _ _ rfl (bkC b).toArray rfl ?_) | (refine wpList_load_mid rfl 80 _ rfl w.heap.size 0 rfl (bkC b) _ r0 Try.underlying80 rfl (unhide HS) ?_))
  refine (used_any b h4 _).mono ?_
  rintro e w1 ⟨rfl, b1⟩
  have B1 := b0.trans (b1.mono b0.size)
  clear b0 b1 r0
  generalize inB (usedN b.ps) 1 3 = x at *
  go_wp2_with (go_at_call 84; refine (unhide HI _).mono ?_; rintro e w' ⟨rfl, hw'⟩; obtain rfl := hw'.symm)
  go_ret
  exact ⟨by rw [unhide HB]; rfl, B1⟩

/-- What the program tells of the blocks from the i-th on, if o is the best that was met so far (f: whether there is one). -/
def openG (bs : List Bk) : List Bk → Nat → Nat → Bool → Int × Bool
  | [], _, o, f => (o, f)
  | b :: r, i, o, f => if begB b then ((i : Int), true) else if usedN b.ps = 0 ∧ (f = false ∨ b.wn < (bs.getD o zBk).wn) then openG bs r (i + 1) i true else openG bs r (i + 1) o f
def openI (bs : List Bk) : Int × Bool := openG bs bs 0 0 false

set_option maxRecDepth 100000 in
set_option maxHeartbeats 1000000 in
theorem openK_any (bs : List Bk) (h4 : bs.length = 4) (hF : Fours bs) (w : World) :
    Calls Try.prog 120 #[.agg (fsC bs).toArray] w fun e w' => OpPost w (openI bs) e w' := by
  have r0 := rangeAt_new w (fsC bs) 82
  have b0 : Below w.heap.size w (w.alloc (.cells (fsC bs).toArray 82)) := (Below.refl _ _).alloc (Nat.le_refl _) _
  have HR0 : Hid (openG bs bs 0 0 false = openI bs) := rfl
  generalize openI bs = R at *
  go_enter Try.func120, Try.ntmps120
  go_wp2_with (first | (refine wpList_box_big rfl _ _ rfl (fsC bs).toArray rfl ?_) | (refine wpList_load_mid rfl 82 _ rfl w.heap.size 0 rfl (fsC bs) _ r0 Try.underlying82 rfl (size_fsl hF h4) ?_))
  generalize hw1 : w.alloc (.cells (fsC bs).toArray 82) = w1 at *
  have s1 : w.heap.size < w1.heap.size := by rw [← hw1]; simp
  have HRG := hide r0
  clear hw1 r0
  go_loopw [4, 5, 9] (fun p q i w' => ∃ (k o : Nat) (f : Bool), k ≤ 4 ∧ i = .int .i64 k ∧ p = .int .i64 (o : Nat) ∧ q = .bool f ∧ o < 4 ∧ Hid (openG bs (bs.drop k) k o f = R) ∧ Below w1.heap.size w1 w') (fun _ _ i _ => 4 - (intOf i).toNat)
  case atStart => exact ⟨0, 0, false, by omega, rfl, rfl, rfl, by omega, HR0, Below.refl _ _⟩
  case round =>
    obtain ⟨k, o, f, hk, rfl, rfl, rfl, ho, HR, bw⟩ := hrel
    have hsz := bw.size
    by_cases h0 : k = 4
    · subst h0
      have HE : Hid (R = ((o : Int), f)) := by
        show _ = _
        have := unhide HR
        rw [List.drop_eq_nil_of_le (by omega)] at this
        exact this.symm
      clear HR
      go_wp2
      go_ret2
      exact ⟨by rw [unhide HE]; rfl, b0.trans (bw.mono (by omega))⟩
    · have hlt : (k : Int) < 4 := by omega
      have hkb : k < bs.length := by omega
      have hob : o < bs.length := by omega
      have hlo : (0 : Int) ≤ (k : Int) := by omega
      have hoo : (0 : Int) ≤ (o : Int) := by omega
      have hol : (o : Int) < 4 := by omega
      have HE := hide (ext_fs hF k hkb)
      have hb4 : bs[k].ps.length = 4 := hF.at k hkb
      have HRK : Hid (openG bs (bs.drop k) k o f = if begB bs[k] then ((k : Int), true) else if usedN bs[k].ps = 0 ∧ (f = false ∨ bs[k].wn < bs[o].wn) then openG bs (bs.drop (k + 1)) (k + 1) k true else openG bs (bs.drop (k + 1)) (k + 1) o f) := by
        show _ = _
        rw [List.drop_eq_getElem_cons hkb]
        simp only [openG]
        rw [getD_at bs o hob]
      have rw1 := rangeAt_below (unhide HRG) bw s1
      have co := worn_bk (hF.at o hob) (sub_fs hF rw1 o hob)
      rw [unhide HRK] at HR
      clear HRK rw1
      generalize bs[k] = b at *
      generalize bs[o].wn = wo at *
      have rb := rangeAt_new wr (bkC b) 80
      have cb := worn_bk hb4 rb
      rw [Nat.zero_add] at cb
      have bw2 := bw.alloc hsz (.cells (bkC b).toArray 80)
      have co2 : (wr.alloc (.cells (bkC b).toArray 80)).cell? ⟨w.heap.size, o * 21 + 20, none⟩ = some (.int .i64 wo) := by
        rw [World.cell?_alloc_lt _ _ _ (by show w.heap.size < _; omega)]; exact co
      have sl : wr.heap.size < (wr.alloc (.cells (bkC b).toArray 80)).heap.size := by simp
      have HSB := hide (size_bkl hb4)
      have HCB := hide (fun (w' : World) => begun_any b hb4 w')
      have HCU := hide (fun (w' : World) => used_any b hb4 w')
      have hul := usedN_le b.ps
      have hu4 : usedN b.ps ≤ 4 := by omega
      clear hul co
      cases hbg : begB b
      rotate_left
      · rw [hbg] at HCB HR
        rw [if_pos rfl] at HR
        go_wp2_with (first | (refine wpList_index_big rfl 82 _ _ rfl (fsC bs).toArray _ (k : Int) rfl rfl 80 4 21 _ Try.underlying82 Try.underlying80 rfl (by kernel_rfl) hlo hlt (unhide HE) ?_) | (refine wpList_alloc_big rfl 80 rfl (bkC zBk).toArray zero_bk ?_) | (refine wpList_store_new rfl 80 _ _ rfl wr (bkC zBk).toArray (bkC b).toArray rfl rfl rfl (size_bk hb4) (same_bk hb4) (one_bk b) ?_) | (refine wpList_load_mid rfl 80 _ rfl wr.heap.size 0 rfl (bkC b) _ rb Try.underlying80 rfl (unhide HSB) ?_) | (go_at_call 147; refine (unhide HCB _).mono ?_; rintro e w3 ⟨rfl, b3⟩; clear rb cb co2))
        go_ret2
        exact ⟨by rw [← unhide HR]; rfl, b0.trans ((bw2.trans (b3.mono bw2.size)).mono (by omega))⟩
      rw [hbg] at HCB HR
      rw [if_neg (by simp)] at HR
      go_wp2_with (first | (refine wpList_index_big rfl 82 _ _ rfl (fsC bs).toArray _ (k : Int) rfl rfl 80 4 21 _ Try.underlying82 Try.underlying80 rfl (by kernel_rfl) hlo hlt (unhide HE) ?_) | (refine wpList_alloc_big rfl 80 rfl (bkC zBk).toArray zero_bk ?_) | (refine wpList_store_new rfl 80 _ _ rfl wr (bkC zBk).toArray (bkC b).toArray rfl rfl rfl (size_bk hb4) (same_bk hb4) (one_bk b) ?_) | (refine wpList_load_mid rfl 80 _ rfl wr.heap.size 0 rfl (bkC b) _ rb Try.underlying80 rfl (unhide HSB) ?_) | (go_at_call 147; refine (unhide HCB _).mono ?_; rintro e w3 ⟨rfl, b3⟩))
      have R3 := rangeAt_below rb b3 sl
      have C3 : w3.cell? ⟨w.heap.size, o * 21 + 20, none⟩ = some (.int .i64 wo) := (b3.cell (p := ⟨w.heap.size, o * 21 + 20, none⟩) (by show w.heap.size < _; omega)).trans co2
      have B3 := bw2.trans (b3.mono bw2.size)
      have s3 := b3.size
      clear rb cb co2 b3 bw2 HCB HE bw
      have sl3 : wr.heap.size < w3.heap.size := by omega
      have sw3 : w.heap.size < w3.heap.size := by omega
      clear sl s3
      generalize wr.heap.size = bb at *
      by_cases hu0 : usedN b.ps = 0
      · have g0 : ((usedN b.ps : Int) == 0) = true := by simp; omega
        cases f
        · rw [if_pos ⟨hu0, .inl rfl⟩] at HR
          have HU := hide hu0
          clear hu0
          refine wp_region_noPanic ?_
          refine wp_region_held_drew (S := fun w' => w'.rangeAt bb 0 (bkC b) ∧ w'.cell? ⟨w.heap.size, o * 21 + 20, none⟩ = some (.int .i64 wo)) (by kernel_rfl) (⟨by simpa using R3, by simpa using C3⟩) (fun hHeld => ?_)
          refine takeL 0 (_) rfl (by kernel_rfl) (by kernel_rfl) (by kernel_rfl) (fun _ _ _ h => h) (yieldsIf_load_mid rfl 80 _ rfl bb 0 rfl (bkC b) _ (fun _ h => h.1) Try.underlying80 rfl (unhide HSB)) hHeld ?_
          try simp only [Act.put, List.setIfInBounds_toArray, List.set_cons_zero, List.set_cons_succ]
          refine oneL 1 rfl (by kernel_rfl) rfl (fun K hK => ?_)
          go_simp
          refine (unhide HCU _).mono ?_
          rintro e w4 ⟨rfl, b4⟩
          go_wp2_with fail
          refine hK.out _ _ ⟨rangeAt_below hHeld.1 b4 (by simpa using sl3), by rw [b4.cell (p := ⟨w.heap.size, o * 21 + 20, none⟩) (by simpa using sw3)]; exact hHeld.2⟩ (fun hHeld => ?_)
          clear hK K
          try simp only [Act.put, List.setIfInBounds_toArray, List.set_cons_zero, List.set_cons_succ]
          refine takeL 2 (.bool true) rfl (by kernel_rfl) (by kernel_rfl) (by kernel_rfl) (fun _ _ _ h => h) (Or.inl ⟨rfl, fun w9 hSw => by go_simp⟩) hHeld ?_
          try simp only [Act.put, List.setIfInBounds_toArray, List.set_cons_zero, List.set_cons_succ]
          refine takeL 3 (.bool true) rfl (by kernel_rfl) (by kernel_rfl) (by kernel_rfl) (fun _ _ _ h => h) (Or.inl ⟨rfl, fun _ _ => rfl⟩) hHeld ?_
          try simp only [Act.put, List.setIfInBounds_toArray, List.set_cons_zero, List.set_cons_succ]
          refine takeL 4 (.bool false) rfl (by kernel_rfl) (by kernel_rfl) (by kernel_rfl) (fun _ _ _ h => h) (Or.inl ⟨rfl, fun _ _ => rfl⟩) hHeld ?_
          try simp only [Act.put, List.setIfInBounds_toArray, List.set_cons_zero, List.set_cons_succ]
          refine takeL 5 (.bool true) rfl (by kernel_rfl) (by kernel_rfl) (by kernel_rfl) (fun _ _ _ h => h) (Or.inl ⟨rfl, fun w9 hSw => by go_simp⟩) hHeld ?_
          try simp only [Act.put, List.setIfInBounds_toArray, List.set_cons_zero, List.set_cons_succ]
          refine takeL 6 (.bool true) rfl (by kernel_rfl) (by kernel_rfl) (by kernel_rfl) (fun _ _ _ h => h) (Or.inl ⟨rfl, fun _ _ => rfl⟩) hHeld ?_
          try simp only [Act.put, List.setIfInBounds_toArray, List.set_cons_zero, List.set_cons_succ]
          refine takeL 7 (undef) rfl (by kernel_rfl) (by kernel_rfl) (by kernel_rfl) (fun _ _ _ h => h) (Or.inr ⟨rfl, rfl⟩) hHeld ?_
          try simp only [Act.put, List.setIfInBounds_toArray, List.set_cons_zero, List.set_cons_succ]
          refine takeL 8 (undef) rfl (by kernel_rfl) (by kernel_rfl) (by kernel_rfl) (fun _ _ _ h => h) (Or.inr ⟨rfl, rfl⟩) hHeld ?_
          try simp only [Act.put, List.setIfInBounds_toArray, List.set_cons_zero, List.set_cons_succ]
          refine takeL 9 (undef) rfl (by kernel_rfl) (by kernel_rfl) (by kernel_rfl) (fun _ _ _ h => h) (Or.inr ⟨rfl, rfl⟩) hHeld ?_
          try simp only [Act.put, List.setIfInBounds_toArray, List.set_cons_zero, List.set_cons_succ]
          refine takeL 10 (undef) rfl (by kernel_rfl) (by kernel_rfl) (by kernel_rfl) (fun _ _ _ h => h) (Or.inr ⟨rfl, rfl⟩) hHeld ?_
          try simp only [Act.put, List.setIfInBounds_toArray, List.set_cons_zero, List.set_cons_succ]
          refine takeL 11 (undef) rfl (by kernel_rfl) (by kernel_rfl) (by kernel_rfl) (fun _ _ _ h => h) (Or.inr ⟨rfl, rfl⟩) hHeld ?_
          try simp only [Act.put, List.setIfInBounds_toArray, List.set_cons_zero, List.set_cons_succ]
          refine takeL 12 (undef) rfl (by kernel_rfl) (by kernel_rfl) (by kernel_rfl) (fun _ _ _ h => h) (Or.inr ⟨rfl, rfl⟩) hHeld ?_
          try simp only [Act.put, List.setIfInBounds_toArray, List.set_cons_zero, List.set_cons_succ]
          refine takeL 13 (undef) rfl (by kernel_rfl) (by kernel_rfl) (by kernel_rfl) (fun _ _ _ h => h) (Or.inr ⟨rfl, rfl⟩) hHeld ?_
          try simp only [Act.put, List.setIfInBounds_toArray, List.set_cons_zero, List.set_cons_succ]
          refine takeL 14 (.bool true) rfl (by kernel_rfl) (by kernel_rfl) (by kernel_rfl) (fun _ _ _ h => h) (Or.inl ⟨rfl, fun w9 hSw => by go_simp⟩) hHeld ?_
          try simp only [Act.put, List.setIfInBounds_toArray, List.set_cons_zero, List.set_cons_succ]
          refine takeL 15 (.bool true) rfl (by kernel_rfl) (by kernel_rfl) (by kernel_rfl) (fun _ _ _ h => h) (Or.inl ⟨rfl, fun w9 hSw => by go_simp⟩) hHeld ?_
          try simp only [Act.put, List.setIfInBounds_toArray, List.set_cons_zero, List.set_cons_succ]
          refine wpAnyH_done (by kernel_rfl) ?_ _
          refine NoPanic.normal ?_
          have B4 := B3.drew.trans (b4.mono B3.drew.size)
          clear hHeld b4 R3 C3 B3
          go_wp2
          go_roundw
          case rel => exact ⟨k + 1, k, true, by omega, by first | rfl | go_num, rfl, rfl, by omega, HR, B4⟩
          case measure => simp [intOf]; omega
        · by_cases hm : b.wn < wo
          · rw [if_pos ⟨hu0, .inr hm⟩] at HR
            have hd : decide (b.wn < wo) = true := by simpa using hm
            clear hu0 hm
            refine wp_region_noPanic ?_
            refine wp_region_held_drew (S := fun w' => w'.rangeAt bb 0 (bkC b) ∧ w'.cell? ⟨w.heap.size, o * 21 + 20, none⟩ = some (.int .i64 wo)) (by kernel_rfl) (⟨by simpa using R3, by simpa using C3⟩) (fun hHeld => ?_)
            refine takeL 0 (_) rfl (by kernel_rfl) (by kernel_rfl) (by kernel_rfl) (fun _ _ _ h => h) (yieldsIf_load_mid rfl 80 _ rfl bb 0 rfl (bkC b) _ (fun _ h => h.1) Try.underlying80 rfl (unhide HSB)) hHeld ?_
            try simp only [Act.put, List.setIfInBounds_toArray, List.set_cons_zero, List.set_cons_succ]
            refine oneL 1 rfl (by kernel_rfl) rfl (fun K hK => ?_)
            go_simp
            refine (unhide HCU _).mono ?_
            rintro e w4 ⟨rfl, b4⟩
            go_wp2_with fail
            refine hK.out _ _ ⟨rangeAt_below hHeld.1 b4 (by simpa using sl3), by rw [b4.cell (p := ⟨w.heap.size, o * 21 + 20, none⟩) (by simpa using sw3)]; exact hHeld.2⟩ (fun hHeld => ?_)
            clear hK K
            try simp only [Act.put, List.setIfInBounds_toArray, List.set_cons_zero, List.set_cons_succ]
            refine takeL 2 (.bool true) rfl (by kernel_rfl) (by kernel_rfl) (by kernel_rfl) (fun _ _ _ h => h) (Or.inl ⟨rfl, fun w9 hSw => by go_simp⟩) hHeld ?_
            try simp only [Act.put, List.setIfInBounds_toArray, List.set_cons_zero, List.set_cons_succ]
            refine takeL 3 (.bool true) rfl (by kernel_rfl) (by kernel_rfl) (by kernel_rfl) (fun _ _ _ h => h) (Or.inl ⟨rfl, fun _ _ => rfl⟩) hHeld ?_
            try simp only [Act.put, List.setIfInBounds_toArray, List.set_cons_zero, List.set_cons_succ]
            refine takeL 4 (.bool true) rfl (by kernel_rfl) (by kernel_rfl) (by kernel_rfl) (fun _ _ _ h => h) (Or.inl ⟨rfl, fun _ _ => rfl⟩) hHeld ?_
            try simp only [Act.put, List.setIfInBounds_toArray, List.set_cons_zero, List.set_cons_succ]
            refine takeL 5 (.bool false) rfl (by kernel_rfl) (by kernel_rfl) (by kernel_rfl) (fun _ _ _ h => h) (Or.inl ⟨rfl, fun w9 hSw => by go_simp⟩) hHeld ?_
            try simp only [Act.put, List.setIfInBounds_toArray, List.set_cons_zero, List.set_cons_succ]
            refine takeL 6 (.bool false) rfl (by kernel_rfl) (by kernel_rfl) (by kernel_rfl) (fun _ _ _ h => h) (Or.inl ⟨rfl, fun _ _ => rfl⟩) hHeld ?_
            try simp only [Act.put, List.setIfInBounds_toArray, List.set_cons_zero, List.set_cons_succ]
            refine takeL 7 (.pointer (some ⟨bb, 20, none⟩)) rfl (by kernel_rfl) (by kernel_rfl) (by kernel_rfl) (fun _ _ _ h => h) (Or.inl ⟨rfl, fun w9 hSw => by go_simp⟩) hHeld ?_
            try simp only [Act.put, List.setIfInBounds_toArray, List.set_cons_zero, List.set_cons_succ]
            refine takeL 8 (.int .i64 b.wn) rfl (by kernel_rfl) (by kernel_rfl) (by kernel_rfl) (fun _ _ _ h => h) (Or.inl ⟨rfl, fun w9 hSw => by have hc := worn_bk hb4 hSw.1; rw [Nat.zero_add] at hc; go_simp⟩) hHeld ?_
            try simp only [Act.put, List.setIfInBounds_toArray, List.set_cons_zero, List.set_cons_succ]
            refine takeL 9 (.int .i64 (o : Nat)) rfl (by kernel_rfl) (by kernel_rfl) (by kernel_rfl) (fun _ _ _ h => h) (Or.inl ⟨rfl, fun _ _ => rfl⟩) hHeld ?_
            try simp only [Act.put, List.setIfInBounds_toArray, List.set_cons_zero, List.set_cons_succ]
            refine takeL 10 (.pointer (some ⟨w.heap.size, o * 21, none⟩)) rfl (by kernel_rfl) (by kernel_rfl) (by kernel_rfl) (fun _ _ _ h => h) (Or.inl ⟨rfl, fun w9 hSw => by go_simp⟩) hHeld ?_
            try simp only [Act.put, List.setIfInBounds_toArray, List.set_cons_zero, List.set_cons_succ]
            refine takeL 11 (.pointer (some ⟨w.heap.size, o * 21 + 20, none⟩)) rfl (by kernel_rfl) (by kernel_rfl) (by kernel_rfl) (fun _ _ _ h => h) (Or.inl ⟨rfl, fun w9 hSw => by go_simp⟩) hHeld ?_
            try simp only [Act.put, List.setIfInBounds_toArray, List.set_cons_zero, List.set_cons_succ]
            refine takeL 12 (.int .i64 wo) rfl (by kernel_rfl) (by kernel_rfl) (by kernel_rfl) (fun _ _ _ h => h) (Or.inl ⟨rfl, fun w9 hSw => by have hc := hSw.2; go_simp⟩) hHeld ?_
            try simp only [Act.put, List.setIfInBounds_toArray, List.set_cons_zero, List.set_cons_succ]
            refine takeL 13 (.bool (decide (b.wn < wo))) rfl (by kernel_rfl) (by kernel_rfl) (by kernel_rfl) (fun _ _ _ h => h) (Or.inl ⟨rfl, fun w9 hSw => by go_simp⟩) hHeld ?_
            try simp only [Act.put, List.setIfInBounds_toArray, List.set_cons_zero, List.set_cons_succ]
            refine takeL 14 (.bool (decide (b.wn < wo))) rfl (by kernel_rfl) (by kernel_rfl) (by kernel_rfl) (fun _ _ _ h => h) (Or.inl ⟨rfl, fun w9 hSw => by go_simp⟩) hHeld ?_
            try simp only [Act.put, List.setIfInBounds_toArray, List.set_cons_zero, List.set_cons_succ]
            refine takeL 15 (.bool (decide (b.wn < wo))) rfl (by kernel_rfl) (by kernel_rfl) (by kernel_rfl) (fun _ _ _ h => h) (Or.inl ⟨rfl, fun w9 hSw => by go_simp⟩) hHeld ?_
            try simp only [Act.put, List.setIfInBounds_toArray, List.set_cons_zero, List.set_cons_succ]
            refine wpAnyH_done (by kernel_rfl) ?_ _
            refine NoPanic.normal ?_
            have B4 := B3.drew.trans (b4.mono B3.drew.size)
            clear hHeld b4 R3 C3 B3
            rw [hd]
            go_wp2
            go_roundw
            case rel => exact ⟨k + 1, k, true, by omega, by first | rfl | go_num, rfl, rfl, by omega, HR, B4⟩
            case measure => simp [intOf]; omega
          · rw [if_neg (fun h => h.2.elim (fun h => by cases h) hm)] at HR
            have hd : decide (b.wn < wo) = false := by simpa using hm
            clear hu0 hm
            refine wp_region_noPanic ?_
            refine wp_region_held_drew (S := fun w' => w'.rangeAt bb 0 (bkC b) ∧ w'.cell? ⟨w.heap.size, o * 21 + 20, none⟩ = some (.int .i64 wo)) (by kernel_rfl) (⟨by simpa using R3, by simpa using C3⟩) (fun hHeld => ?_)
            refine takeL 0 (_) rfl (by kernel_rfl) (by kernel_rfl) (by kernel_rfl) (fun _ _ _ h => h) (yieldsIf_load_mid rfl 80 _ rfl bb 0 rfl (bkC b) _ (fun _ h => h.1) Try.underlying80 rfl (unhide HSB)) hHeld ?_
            try simp only [Act.put, List.setIfInBounds_toArray, List.set_cons_zero, List.set_cons_succ]
            refine oneL 1 rfl (by kernel_rfl) rfl (fun K hK => ?_)
            go_simp
            refine (unhide HCU _).mono ?_
            rintro e w4 ⟨rfl, b4⟩
            go_wp2_with fail
            refine hK.out _ _ ⟨rangeAt_below hHeld.1 b4 (by simpa using sl3), by rw [b4.cell (p := ⟨w.heap.size, o * 21 + 20, none⟩) (by simpa using sw3)]; exact hHeld.2⟩ (fun hHeld => ?_)
            clear hK K
            try simp only [Act.put, List.setIfInBounds_toArray, List.set_cons_zero, List.set_cons_succ]
            refine takeL 2 (.bool true) rfl (by kernel_rfl) (by kernel_rfl) (by kernel_rfl) (fun _ _ _ h => h) (Or.inl ⟨rfl, fun w9 hSw => by go_simp⟩) hHeld ?_
            try simp only [Act.put, List.setIfInBounds_toArray, List.set_cons_zero, List.set_cons_succ]
            refine takeL 3 (.bool true) rfl (by kernel_rfl) (by kernel_rfl) (by kernel_rfl) (fun _ _ _ h => h) (Or.inl ⟨rfl, fun _ _ => rfl⟩) hHeld ?_
            try simp only [Act.put, List.setIfInBounds_toArray, List.set_cons_zero, List.set_cons_succ]
            refine takeL 4 (.bool true) rfl (by kernel_rfl) (by kernel_rfl) (by kernel_rfl) (fun _ _ _ h => h) (Or.inl ⟨rfl, fun _ _ => rfl⟩) hHeld ?_
            try simp only [Act.put, List.setIfInBounds_toArray, List.set_cons_zero, List.set_cons_succ]
            refine takeL 5 (.bool false) rfl (by kernel_rfl) (by kernel_rfl) (by kernel_rfl) (fun _ _ _ h => h) (Or.inl ⟨rfl, fun w9 hSw => by go_simp⟩) hHeld ?_
            try simp only [Act.put, List.setIfInBounds_toArray, List.set_cons_zero, List.set_cons_succ]
            refine takeL 6 (.bool false) rfl (by kernel_rfl) (by kernel_rfl) (by kernel_rfl) (fun _ _ _ h => h) (Or.inl ⟨rfl, fun _ _ => rfl⟩) hHeld ?_
            try simp only [Act.put, List.setIfInBounds_toArray, List.set_cons_zero, List.set_cons_succ]
            refine takeL 7 (.pointer (some ⟨bb, 20, none⟩)) rfl (by kernel_rfl) (by kernel_rfl) (by kernel_rfl) (fun _ _ _ h => h) (Or.inl ⟨rfl, fun w9 hSw => by go_simp⟩) hHeld ?_
            try simp only [Act.put, List.setIfInBounds_toArray, List.set_cons_zero, List.set_cons_succ]
            refine takeL 8 (.int .i64 b.wn) rfl (by kernel_rfl) (by kernel_rfl) (by kernel_rfl) (fun _ _ _ h => h) (Or.inl ⟨rfl, fun w9 hSw => by have hc := worn_bk hb4 hSw.1; rw [Nat.zero_add] at hc; go_simp⟩) hHeld ?_
            try simp only [Act.put, List.setIfInBounds_toArray, List.set_cons_zero, List.set_cons_succ]
            refine takeL 9 (.int .i64 (o : Nat)) rfl (by kernel_rfl) (by kernel_rfl) (by kernel_rfl) (fun _ _ _ h => h) (Or.inl ⟨rfl, fun _ _ => rfl⟩) hHeld ?_
            try simp only [Act.put, List.setIfInBounds_toArray, List.set_cons_zero, List.set_cons_succ]
            refine takeL 10 (.pointer (some ⟨w.heap.size, o * 21, none⟩)) rfl (by kernel_rfl) (by kernel_rfl) (by kernel_rfl) (fun _ _ _ h => h) (Or.inl ⟨rfl, fun w9 hSw => by go_simp⟩) hHeld ?_
            try simp only [Act.put, List.setIfInBounds_toArray, List.set_cons_zero, List.set_cons_succ]
            refine takeL 11 (.pointer (some ⟨w.heap.size, o * 21 + 20, none⟩)) rfl (by kernel_rfl) (by kernel_rfl) (by kernel_rfl) (fun _ _ _ h => h) (Or.inl ⟨rfl, fun w9 hSw => by go_simp⟩) hHeld ?_
            try simp only [Act.put, List.setIfInBounds_toArray, List.set_cons_zero, List.set_cons_succ]
            refine takeL 12 (.int .i64 wo) rfl (by kernel_rfl) (by kernel_rfl) (by kernel_rfl) (fun _ _ _ h => h) (Or.inl ⟨rfl, fun w9 hSw => by have hc := hSw.2; go_simp⟩) hHeld ?_
            try simp only [Act.put, List.setIfInBounds_toArray, List.set_cons_zero, List.set_cons_succ]
            refine takeL 13 (.bool (decide (b.wn < wo))) rfl (by kernel_rfl) (by kernel_rfl) (by kernel_rfl) (fun _ _ _ h => h) (Or.inl ⟨rfl, fun w9 hSw => by go_simp⟩) hHeld ?_
            try simp only [Act.put, List.setIfInBounds_toArray, List.set_cons_zero, List.set_cons_succ]
            refine takeL 14 (.bool (decide (b.wn < wo))) rfl (by kernel_rfl) (by kernel_rfl) (by kernel_rfl) (fun _ _ _ h => h) (Or.inl ⟨rfl, fun w9 hSw => by go_simp⟩) hHeld ?_
            try simp only [Act.put, List.setIfInBounds_toArray, List.set_cons_zero, List.set_cons_succ]
            refine takeL 15 (.bool (decide (b.wn < wo))) rfl (by kernel_rfl) (by kernel_rfl) (by kernel_rfl) (fun _ _ _ h => h) (Or.inl ⟨rfl, fun w9 hSw => by go_simp⟩) hHeld ?_
            try simp only [Act.put, List.setIfInBounds_toArray, List.set_cons_zero, List.set_cons_succ]
            refine wpAnyH_done (by kernel_rfl) ?_ _
            refine NoPanic.normal ?_
            have B4 := B3.drew.trans (b4.mono B3.drew.size)
            clear hHeld b4 R3 C3 B3
            rw [hd]
            go_wp2
            go_roundw
            case rel => exact ⟨k + 1, o, true, by omega, by first | rfl | go_num, rfl, rfl, by omega, HR, B4⟩
            case measure => simp [intOf]; omega
      · have g0 : ((usedN b.ps : Int) == 0) = false := by simp; omega
        rw [if_neg (fun h => hu0 h.1)] at HR
        clear hu0
        refine wp_region_noPanic ?_
        refine wp_region_held_drew (S := fun w' => w'.rangeAt bb 0 (bkC b) ∧ w'.cell? ⟨w.heap.size, o * 21 + 20, none⟩ = some (.int .i64 wo)) (by kernel_rfl) (⟨by simpa using R3, by simpa using C3⟩) (fun hHeld => ?_)
        refine takeL 0 (_) rfl (by kernel_rfl) (by kernel_rfl) (by kernel_rfl) (fun _ _ _ h => h) (yieldsIf_load_mid rfl 80 _ rfl bb 0 rfl (bkC b) _ (fun _ h => h.1) Try.underlying80 rfl (unhide HSB)) hHeld ?_
        try simp only [Act.put, List.setIfInBounds_toArray, List.set_cons_zero, List.set_cons_succ]
        refine oneL 1 rfl (by kernel_rfl) rfl (fun K hK => ?_)
        go_simp
        refine (unhide HCU _).mono ?_
        rintro e w4 ⟨rfl, b4⟩
        go_wp2_with fail
        refine hK.out _ _ ⟨rangeAt_below hHeld.1 b4 (by simpa using sl3), by rw [b4.cell (p := ⟨w.heap.size, o * 21 + 20, none⟩) (by simpa using sw3)]; exact hHeld.2⟩ (fun hHeld => ?_)
        clear hK K
        try simp only [Act.put, List.setIfInBounds_toArray, List.set_cons_zero, List.set_cons_succ]
        refine takeL 2 (.bool false) rfl (by kernel_rfl) (by kernel_rfl) (by kernel_rfl) (fun _ _ _ h => h) (Or.inl ⟨rfl, fun w9 hSw => by go_simp⟩) hHeld ?_
        try simp only [Act.put, List.setIfInBounds_toArray, List.set_cons_zero, List.set_cons_succ]
        refine takeL 3 (.bool false) rfl (by kernel_rfl) (by kernel_rfl) (by kernel_rfl) (fun _ _ _ h => h) (Or.inl ⟨rfl, fun _ _ => rfl⟩) hHeld ?_
        try simp only [Act.put, List.setIfInBounds_toArray, List.set_cons_zero, List.set_cons_succ]
        refine takeL 4 (undef) rfl (by kernel_rfl) (by kernel_rfl) (by kernel_rfl) (fun _ _ _ h => h) (Or.inr ⟨rfl, rfl⟩) hHeld ?_
        try simp only [Act.put, List.setIfInBounds_toArray, List.set_cons_zero, List.set_cons_succ]
        refine takeL 5 (undef) rfl (by kernel_rfl) (by kernel_rfl) (by kernel_rfl) (fun _ _ _ h => h) (Or.inr ⟨rfl, rfl⟩) hHeld ?_
        try simp only [Act.put, List.setIfInBounds_toArray, List.set_cons_zero, List.set_cons_succ]
        refine takeL 6 (undef) rfl (by kernel_rfl) (by kernel_rfl) (by kernel_rfl) (fun _ _ _ h => h) (Or.inr ⟨rfl, rfl⟩) hHeld ?_
        try simp only [Act.put, List.setIfInBounds_toArray, List.set_cons_zero, List.set_cons_succ]
        refine takeL 7 (undef) rfl (by kernel_rfl) (by kernel_rfl) (by kernel_rfl) (fun _ _ _ h => h) (Or.inr ⟨rfl, rfl⟩) hHeld ?_
        try simp only [Act.put, List.setIfInBounds_toArray, List.set_cons_zero, List.set_cons_succ]
        refine takeL 8 (undef) rfl (by kernel_rfl) (by kernel_rfl) (by kernel_rfl) (fun _ _ _ h => h) (Or.inr ⟨rfl, rfl⟩) hHeld ?_
        try simp only [Act.put, List.setIfInBounds_toArray, List.set_cons_zero, List.set_cons_succ]
        refine takeL 9 (undef) rfl (by kernel_rfl) (by kernel_rfl) (by kernel_rfl) (fun _ _ _ h => h) (Or.inr ⟨rfl, rfl⟩) hHeld ?_
        try simp only [Act.put, List.setIfInBounds_toArray, List.set_cons_zero, List.set_cons_succ]
        refine takeL 10 (undef) rfl (by kernel_rfl) (by kernel_rfl) (by kernel_rfl) (fun _ _ _ h => h) (Or.inr ⟨rfl, rfl⟩) hHeld ?_
        try simp only [Act.put, List.setIfInBounds_toArray, List.set_cons_zero, List.set_cons_succ]
        refine takeL 11 (undef) rfl (by kernel_rfl) (by kernel_rfl) (by kernel_rfl) (fun _ _ _ h => h) (Or.inr ⟨rfl, rfl⟩) hHeld ?_
        try simp only [Act.put, List.setIfInBounds_toArray, List.set_cons_zero, List.set_cons_succ]
        refine takeL 12 (undef) rfl (by kernel_rfl) (by kernel_rfl) (by kernel_rfl) (fun _ _ _ h => h) (Or.inr ⟨rfl, rfl⟩) hHeld ?_
        try simp only [Act.put, List.setIfInBounds_toArray, List.set_cons_zero, List.set_cons_succ]
        refine takeL 13 (undef) rfl (by kernel_rfl) (by kernel_rfl) (by kernel_rfl) (fun _ _ _ h => h) (Or.inr ⟨rfl, rfl⟩) hHeld ?_
        try simp only [Act.put, List.setIfInBounds_toArray, List.set_cons_zero, List.set_cons_succ]
        refine takeL 14 (undef) rfl (by kernel_rfl) (by kernel_rfl) (by kernel_rfl) (fun _ _ _ h => h) (Or.inr ⟨rfl, rfl⟩) hHeld ?_
        try simp only [Act.put, List.setIfInBounds_toArray, List.set_cons_zero, List.set_cons_succ]
        refine takeL 15 (.bool false) rfl (by kernel_rfl) (by kernel_rfl) (by kernel_rfl) (fun _ _ _ h => h) (Or.inl ⟨rfl, fun w9 hSw => by go_simp⟩) hHeld ?_
        try simp only [Act.put, List.setIfInBounds_toArray, List.set_cons_zero, List.set_cons_succ]
        refine wpAnyH_done (by kernel_rfl) ?_ _
        refine NoPanic.normal ?_
        have B4 := B3.drew.trans (b4.mono B3.drew.size)
        clear hHeld b4 R3 C3 B3
        go_wp2
        go_roundw
        case rel => exact ⟨k + 1, o, f, by omega, by first | rfl | go_num, rfl, rfl, by omega, HR, B4⟩
        case measure => simp [intOf]; omega
end Go.Proofs.Ytcmklcfedeeahaa.ImplO

/-
  The specification's FlashWipe, for every list of blocks.
-/
namespace Go.Proofs.Ytcmklcfedeeahaa.SpecX
open Go.ChangeShapes Go.WideShapes Go.ChangeAt Go.RowKit OkA Big Fl ImplB ImplF ImplS Own ImplT ImplU SpecA SpecB SpecC SpecD SpecW
set_option linter.unusedVariables false
set_option linter.unusedSimpArgs false

/-- What FlashWipe answers. -/
def wiR (bs : List Bk) (blk : Int) (torn : Bool) : List Bk :=
  if okB bs && inB blk 0 3 then (if wiN bs blk.toNat then bs else wiL bs blk.toNat torn) else []
def wiO (bs : List Bk) (blk : Int) : Bool := okB bs && inB blk 0 3 && !wiN bs blk.toNat
theorem wiL_len {bs : List Bk} {k : Nat} {t : Bool} : (wiL bs k t).length = bs.length := by simp [wiL]
theorem wiL_fours {bs : List Bk} (h : Fours bs) {k : Nat} {t : Bool} : Fours (wiL bs k t) := fun b hb => by
  rcases List.mem_or_eq_of_mem_set hb with h' | rfl
  · exact h b h'
  · simp [wiB]
theorem fs_at {w : World} {a : Option Addr} {bs : List Bk} (hf : FsAt w a bs) (h : bs.length = 4) : ∃ b o, a = some ⟨b, o, none⟩ ∧ ∀ i (hi : i < bs.length), BkAt w b (o + i * 2) bs[i] := by
  rcases hf with rfl | h'
  · simp at h
  · exact h'
theorem copy4 (fb fo cap : Nat) (bs : List Bk) (w : World) (hF : Fours bs) (h4 : bs.length = 4) (hf : ∀ i (hi : i < bs.length), BkAt w fb (fo + i * 2) bs[i]) :
    Calls Try.prog 109 #[.slice (some ⟨fb, fo, none⟩) 4 cap] w fun e w' => ∃ g G c, e = .returned (.slice (some ⟨g, 0, none⟩) 4 c) ∧ Own w' w.heap.size g G bs 4 ∧ Below w.heap.size w w' := by
  have := copy_any fb fo cap bs w hF (by omega) hf (by omega)
  rwa [h4] at this

set_option maxHeartbeats 1000000 in
theorem specWipe_any (a : Option Addr) (cap : Nat) (blk : Int) (torn : Bool) (bs : List Bk) (w : World) (hf : FsAt w a bs) (hm : bs.length ≤ 1048576) :
    Calls Try.prog 63 #[.slice a bs.length cap, .int .i64 blk, .bool torn] w fun e w' => OutPost w (wiR bs blk torn) (wiO bs blk) e w' := by
  have HC := hide (specFlashOk_any a cap bs w hf hm)
  cases hs : okB bs
  · have HR : Hid (wiR bs blk torn = []) := by show _ = _; unfold wiR; rw [hs]; rfl
    have HO : Hid (wiO bs blk = false) := by show _ = _; unfold wiO; rw [hs]; rfl
    rw [hs] at HC
    clear hs hf
    go_enter Try.func63, Try.ntmps63
    go_wp2_with fail
    refine (unhide HC).mono ?_
    rintro e w1 ⟨rfl, b1⟩
    go_wp2
    go_ret2
    rw [unhide HR, unhide HO]
    exact ⟨_, rfl, .inl ⟨rfl, _, _, rfl⟩, b1.alloc b1.size _⟩
  · cases hb : inB blk 0 3
    · have HR : Hid (wiR bs blk torn = []) := by show _ = _; unfold wiR; rw [hs, hb]; rfl
      have HO : Hid (wiO bs blk = false) := by show _ = _; unfold wiO; rw [hs, hb]; rfl
      have HI := hide (l6In_any blk 0 3)
      rw [hs] at HC
      rw [hb] at HI
      clear hs hf hb
      go_enter Try.func63, Try.ntmps63
      go_wp2_with fail
      refine (unhide HC).mono ?_
      rintro e w1 ⟨rfl, b1⟩
      go_wp2_with (go_at_call 80; refine (unhide HI _).mono ?_; rintro e w' ⟨rfl, hw'⟩; obtain rfl := hw'.symm)
      go_ret2
      rw [unhide HR, unhide HO]
      exact ⟨_, rfl, .inl ⟨rfl, _, _, rfl⟩, b1.alloc b1.size _⟩
    · obtain ⟨k, rfl, hk⟩ := in_range hb
      have h4 := ok_len hs
      have HF := hide (ok_fours hs)
      obtain ⟨fb, fo, rfl, hf'⟩ := fs_at hf h4
      have HR : Hid (wiR bs (k : Int) torn = if wiN bs k then bs else wiL bs k torn) := by show _ = _; unfold wiR; rw [hs, hb]; rfl
      have HO : Hid (wiO bs (k : Int) = !wiN bs k) := by show _ = _; unfold wiO; rw [hs, hb]; rfl
      have HL : Hid ((if wiN bs k then bs else wiL bs k torn).length = 4) := by
        show _ = _
        split
        · exact h4
        · rw [wiL_len]; exact h4
      have HFF := hide hf
      have HI := hide (l6In_any (k : Int) 0 3)
      have HS := hide hs
      rw [hs] at HC
      rw [hb] at HI
      rw [h4] at HC ⊢
      clear hs hf hb hf'
      go_enter Try.func63, Try.ntmps63
      go_wp2_with fail
      refine (unhide HC).mono ?_
      rintro e w1 ⟨rfl, b1⟩
      have F1 := hide ((unhide HFF).below b1)
      go_wp2_with (go_at_call 80; refine (unhide HI _).mono ?_; rintro e w' ⟨rfl, hw'⟩; obtain rfl := hw'.symm)
      refine (copy4 fb fo cap bs _ (unhide HF) h4 (by
        obtain ⟨b', o', he, h'⟩ := fs_at (unhide F1) h4
        simp at he
        obtain ⟨rfl, rfl⟩ := he
        exact h')).mono ?_
      rintro e w2 ⟨g, G, c, rfl, o2, b2⟩
      go_wp2_with fail
      refine (wipe_any _ _ _ _ _ k torn _ o2 (unhide HS) hk).mono ?_
      rintro e w3 ⟨rfl, o3, k3⟩
      have b3 := k3.below (fun x hx => o2.lo x hx) b2.size
      have B2 := b1.trans (b2.mono b1.size)
      have B3 := B2.trans (b3.mono b1.size)
      have o4 := o3.mono b1.size
      clear b1 b2 b3 k3 o2 o3 B2 F1
      rw [← unhide HR] at o4 HL
      rw [← unhide HO]
      have HOL := hide (show Own w3 w.heap.size g G (wiR bs (k : Int) torn) (wiR bs (k : Int) torn).length by rw [unhide HL]; exact o4)
      generalize hO : wiO bs (k : Int) = ok at *
      have HOE := hide hO
      clear hO o4 HO HR
      go_wp2
      go_ret2
      exact ⟨_, by rw [unhide HOE]; rfl, .inr ⟨g, G, c, by rw [unhide HL]; rfl, unhide HOL⟩, B3⟩
end Go.Proofs.Ytcmklcfedeeahaa.SpecX

/-
  FindOpen, of the program and of the specification: both answer the same.
-/
namespace Go.Proofs.Ytcmklcfedeeahaa.FindO
open Go.ChangeShapes Go.WideShapes Go.ChangeAt Go.RowKit OkA Big Fl ImplB ImplF ImplS Own ImplT ImplU SpecA SpecB SpecC SpecD SpecW SpecF SpecG SpecH Ok2 ImplO SpecX
set_option linter.unusedVariables false
set_option linter.unusedSimpArgs false

/-! Plain lists. -/
theorem openG_F (bs : List Bk) : ∀ (l : List Bk) (i o : Nat) (f : Bool), (∀ b ∈ l, b.ps.length = 4 ∧ tailB b.ps = true) → (f = false → o = 0) →
    openG bs l i o f = openF bs l i (if f then (o : Int) else -1)
  | [], i, o, f, _, h0 => by
    cases f
    · have := h0 rfl; subst this; rfl
    · simp only [openG, openF, if_true]
      have h1 : ¬ (o : Int) < 0 := by omega
      have h2 : (0 : Int) ≤ (o : Int) := by omega
      rw [if_neg h1]; simp [h2]
  | b :: r, i, o, f, hl, h0 => by
    obtain ⟨h4, ht⟩ := hl b (by simp)
    have hcu := clean_used b.ps ht
    rw [h4] at hcu
    have ih := fun i o f h => openG_F bs r i o f (fun x hx => hl x (by simp [hx])) h
    simp only [openG, openF]
    by_cases hb : 0 < cleanN b.ps ∧ cleanN b.ps < 4
    · rw [if_pos hb, if_pos (by simp [begB, inB]; omega)]
    · rw [if_neg hb, if_neg (by simp [begB, inB]; omega)]
      by_cases hz : usedN b.ps = 0
      · cases f
        · rw [if_pos ⟨hz, .inl rfl⟩, ih (i + 1) i true (fun h => by cases h)]
          have e : (0 < cleanN b.ps ∧ ((-1 : Int) < 0 ∨ b.wn < (bs.getD (-1 : Int).toNat zBk).wn)) := ⟨by omega, .inl (by omega)⟩
          simp only [Bool.false_eq_true, if_true, if_false]
          rw [if_pos e]
        · by_cases hw : b.wn < (bs.getD o zBk).wn
          · rw [if_pos ⟨hz, .inr hw⟩, ih (i + 1) i true (fun h => by cases h)]
            have e : (0 < cleanN b.ps ∧ ((o : Int) < 0 ∨ b.wn < (bs.getD (o : Int).toNat zBk).wn)) := ⟨by omega, .inr (by simpa using hw)⟩
            simp only [if_true]
            rw [if_pos e]
          · have e : ¬ (0 < cleanN b.ps ∧ ((o : Int) < 0 ∨ b.wn < (bs.getD (o : Int).toNat zBk).wn)) := fun h => h.2.elim (fun h => by omega) (fun h => hw (by simpa using h))
            have e2 : ¬ (usedN b.ps = 0 ∧ (true = false ∨ b.wn < (bs.getD o zBk).wn)) := fun h => h.2.elim (fun h => by cases h) hw
            rw [if_neg e2, ih (i + 1) o true (fun h => by cases h)]
            simp only [if_true]
            rw [if_neg e]
      · have e : ∀ x : Int, ¬ (0 < cleanN b.ps ∧ (x < 0 ∨ b.wn < (bs.getD x.toNat zBk).wn)) := fun x h => by omega
        have e2 : ¬ (usedN b.ps = 0 ∧ (f = false ∨ b.wn < (bs.getD o zBk).wn)) := fun h => hz h.1
        rw [if_neg e2, ih (i + 1) o f h0, if_neg (e _)]
theorem openI_R (bs : List Bk) (h : okB bs = true) : openI bs = openR bs := by
  obtain ⟨h4, hb, _⟩ := (okB_iff bs).1 h
  exact openG_F bs bs 0 0 false (fun b hm => by have := (bkB_iff b).1 (hb b hm); exact ⟨this.1, this.2.2.2⟩) (fun _ => rfl)
/-- What FindOpen answers. -/
def fopR (bs : List Bk) : Int × Bool := if okB bs then openR bs else (0, false)

set_option maxHeartbeats 400000 in
theorem specOpen_any (a : Option Addr) (cap : Nat) (bs : List Bk) (w : World) (hf : FsAt w a bs) (hm : bs.length ≤ 1048576) :
    Calls Try.prog 72 #[.slice a bs.length cap] w fun e w' => OpPost w (fopR bs) e w' := by
  have HC := hide (specFlashOk_any a cap bs w hf hm)
  have HF := hide hf
  clear hf
  have HR : Hid (fopR bs = if okB bs then openR bs else (0, false)) := rfl
  generalize fopR bs = R at *
  obtain ⟨x, y⟩ := R
  cases hok : okB bs
  · rw [hok] at HC HR
    go_enter Try.func72, Try.ntmps72
    go_wp2_with fail
    refine (unhide HC).mono ?_
    rintro e w1 ⟨rfl, b1⟩
    go_wp2
    go_ret2
    exact ⟨by rw [unhide HR]; rfl, b1⟩
  · have h4 := ok_len hok
    have hF := ok_fours hok
    rw [hok] at HC HR
    rw [if_pos rfl] at HR
    obtain ⟨fb, fo, rfl, _⟩ := fs_at (unhide HF) h4
    rw [h4] at HC ⊢
    go_enter Try.func72, Try.ntmps72
    go_wp2_with fail
    refine (unhide HC).mono ?_
    rintro e w1 ⟨rfl, b1⟩
    go_wp2_with fail
    refine (open_any fb fo cap bs _ hF h4 (by
      obtain ⟨b', o', he, h'⟩ := fs_at ((unhide HF).below b1) h4
      simp at he
      obtain ⟨rfl, rfl⟩ := he
      exact h')).mono ?_
    rintro e w2 ⟨rfl, b2⟩
    rw [← unhide HR]
    go_wp2
    go_ret2
    exact ⟨rfl, b1.trans (b2.mono b1.size)⟩

set_option maxHeartbeats 400000 in
theorem implOpen_any (a : Option Addr) (cap : Nat) (bs : List Bk) (w : World) (hf : FsAt w a bs) (hm : bs.length ≤ 9223372036854775807) :
    Calls Try.prog 73 #[.slice a bs.length cap] w fun e w' => OpPost w (fopR bs) e w' := by
  obtain ⟨zf, hz, hz84⟩ := zrow
  have HZ := hide hz
  clear hz
  have HR : Hid (fopR bs = if okB bs then openR bs else (0, false)) := rfl
  generalize fopR bs = R at *
  obtain ⟨x, y⟩ := R
  go_enter Try.func73, Try.ntmps73
  go_wp2_with fail
  refine (ofz_any a cap bs _ hf hm).mono ?_
  rintro e w1 ⟨ks, rfl, hk4, hkF, hke, b1⟩
  have hsz : zf.size = (fsC ks).toArray.size := by rw [hz84, List.size_toArray, len_fsC _ hkF, hk4]
  have r1 := rangeAt_new w1 (fsC ks) 82
  have B1 := b1.alloc b1.size (.cells (fsC ks).toArray 82)
  clear b1
  cases hs : okB bs
  · rw [hs] at HR
    clear hs hke
    go_wp2_with (first | (refine wpList_alloc_big rfl 82 rfl zf (unhide HZ) ?_) | (refine wpList_store_new rfl 82 _ _ rfl w1 zf (fsC ks).toArray rfl rfl rfl (size_fsa hkF hk4) hsz (one_fs ks) ?_))
    go_ret2
    exact ⟨by rw [unhide HR]; rfl, B1⟩
  · obtain rfl := hke hs
    rw [hs, if_pos rfl, ← openI_R ks hs] at HR
    clear hs hke
    go_wp2_with (first | (refine wpList_alloc_big rfl 82 rfl zf (unhide HZ) ?_) | (refine wpList_store_new rfl 82 _ _ rfl w1 zf (fsC ks).toArray rfl rfl rfl (size_fsa hkF hk4) hsz (one_fs ks) ?_) | (refine wpList_load_mid rfl 82 _ rfl w1.heap.size 0 rfl (fsC ks) _ r1 Try.underlying82 rfl (size_fsl hkF hk4) ?_))
    refine (openK_any ks hk4 hkF _).mono ?_
    rintro e w2 ⟨rfl, b2⟩
    clear r1
    rw [← unhide HR]
    go_wp2
    go_ret2
    exact ⟨rfl, B1.trans (b2.mono B1.size)⟩
end Go.Proofs.Ytcmklcfedeeahaa.FindO

/-
  Plain lists: the last record of an address, what lives, steps, what they do, what happens. Nothing here walks the program.
-/
namespace Go.Proofs.Ytcmklcfedeeahaa.Pl
open Go.ChangeShapes Go.WideShapes Go.ChangeAt Go.RowKit OkA Big Fl ImplB ImplF ImplS Own ImplT ImplU SpecA SpecB SpecC SpecD SpecW SpecF SpecG SpecH Ok2
set_option linter.unusedVariables false
set_option linter.unusedSimpArgs false

/-- A record. -/
structure Rc where
  k : Int
  s : Int
  a : Int
  v : Int
def zRc : Rc := ⟨0, 0, 0, 0⟩
def rcC (r : Rc) : List Value := [.int .i64 r.k, .int .i64 r.s, .int .i64 r.a, .int .i64 r.v]
def pgRc (p : Pg) : Rc := ⟨p.k, p.s, p.a, p.v⟩
def eqRc (r q : Rc) : Bool := r.k == q.k && r.s == q.s && r.a == q.a && r.v == q.v
theorem eqRc_iff (r q : Rc) : eqRc r q = true ↔ r = q := by
  cases r; cases q; simp [eqRc, and_assoc]
/-- The page is a later record of the address. -/
def laterB (addr : Int) (o : Rc) (p : Pg) : Bool := p.st == 1 && p.a == addr && decide (o.s < p.s)
def lastS (addr : Int) (o : Rc) (p : Pg) : Rc := if laterB addr o p then pgRc p else o
def lastP (addr : Int) (o : Rc) (ps : List Pg) : Rc := ps.foldl (lastS addr) o
def lastF (addr : Int) (o : Rc) (bs : List Bk) : Rc := bs.foldl (fun o b => lastP addr o b.ps) o
def lastR (bs : List Bk) (addr : Int) : Rc := lastF addr zRc bs
def lastO (bs : List Bk) (addr : Int) : Bool := decide (0 < (lastR bs addr).s)
theorem lastP_take (addr : Int) (o : Rc) (ps : List Pg) (j : Nat) (hj : j < ps.length) : lastP addr o (ps.take (j + 1)) = lastS addr (lastP addr o (ps.take j)) ps[j] := by
  unfold lastP
  rw [List.take_succ_eq_append_getElem hj, List.foldl_append]; rfl
theorem lastF_take (addr : Int) (o : Rc) (bs : List Bk) (j : Nat) (hj : j < bs.length) : lastF addr o (bs.take (j + 1)) = lastP addr (lastF addr o (bs.take j)) bs[j].ps := by
  unfold lastF
  rw [List.take_succ_eq_append_getElem hj, List.foldl_append]; rfl
/-- The page has the last record of its address. -/
def liveB (bs : List Bk) (p : Pg) : Bool := p.st == 1 && eqRc (lastR bs p.a) (pgRc p)

/-- A step. -/
structure Stp where
  kind : Int
  addr : Int
  val : Int
  blk : Int
  r : Rc
def stC (x : Stp) : List Value := [.int .i64 x.kind, .int .i64 x.addr, .int .i64 x.val, .int .i64 x.blk, .int .i64 x.r.k, .int .i64 x.r.s, .int .i64 x.r.a, .int .i64 x.r.v]
def stsC (l : List Stp) : List Value := l.flatMap stC
theorem len_stsC (l : List Stp) : (stsC l).length = l.length * 8 := by
  unfold stsC; induction l with
  | nil => rfl
  | cons x r ih => simp only [List.flatMap_cons, List.length_append, ih, List.length_cons, stC, List.length_nil]; omega
def zSt : Stp := ⟨0, 0, 0, 0, zRc⟩
def diskS (addr val : Int) : Stp := ⟨1, addr, val, 0, zRc⟩
def wipeS (b : Int) : Stp := ⟨2, 0, 0, b, zRc⟩
def writeS (b : Int) (r : Rc) : Stp := ⟨3, 0, 0, b, r⟩
/-- The slow disk is told what is dirty and lives on these pages. -/
def tellP (bs : List Bk) (ps : List Pg) : List Stp := ps.filterMap fun p => if liveB bs p && p.k == 1 then some (diskS p.a p.v) else none
def oldB (bs : List Bk) : Nat := oldN bs 3
def roomL (bs : List Bk) : List Stp := if (openR bs).2 then [] else tellP bs (bs.getD (oldB bs) zBk).ps ++ [wipeS (oldB bs)]
def roomB (bs : List Bk) : Int := if (openR bs).2 then (openR bs).1 else oldB bs
def roomO (bs : List Bk) : Bool := (openR bs).2 || decide ((bs.getD (oldB bs) zBk).wn < 200)
def writeP (bs : List Bk) (kind addr val : Int) : List Stp :=
  if roomO bs && recB kind (mostB bs + 1) addr val then roomL bs ++ [writeS (roomB bs) ⟨kind, mostB bs + 1, addr, val⟩] else []
def dirtyB (bs : List Bk) (addr : Int) : Bool := lastO bs addr && (lastR bs addr).k == 1
def readI (bs : List Bk) (dk : List Int) (addr : Int) : Int := if lastO bs addr then (lastR bs addr).v else dk.getD (addr - 1).toNat 0
def flushP (bs : List Bk) (dk : List Int) (addr : Int) : List Stp :=
  if inB addr 1 6 && dirtyB bs addr then (if (writeP bs 2 addr (readI bs dk addr)).isEmpty then [] else diskS addr (readI bs dk addr) :: writeP bs 2 addr (readI bs dk addr)) else []
def fillP (bs : List Bk) (dk : List Int) (addr : Int) : List Stp :=
  if inB addr 1 6 && !lastO bs addr then writeP bs 2 addr (dk.getD (addr - 1).toNat 0) else []

/-- A step that can be done without harm. -/
def stpB (x : Stp) : Bool := if x.kind = 1 then inB x.addr 1 6 else if x.kind = 2 then inB x.blk 0 3 else if x.kind = 3 then inB x.blk 0 3 && recB x.r.k x.r.s x.r.a x.r.v else true
def wrF (bs : List Bk) (k : Nat) (r : Rc) (torn : Bool) : List Bk := if wrN bs k r.s then bs else wrL bs k (pgW torn r.k r.s r.a r.v)
def wiF (bs : List Bk) (k : Nat) (torn : Bool) : List Bk := if wiN bs k then bs else wiL bs k torn
def doF (bs : List Bk) (x : Stp) (torn : Bool) : List Bk := if x.kind = 2 then wiF bs x.blk.toNat torn else if x.kind = 3 then wrF bs x.blk.toNat x.r torn else bs
def doD (dk : List Int) (x : Stp) (torn : Bool) : List Int := if x.kind = 1 then (if torn then dk else dk.set (x.addr - 1).toNat x.val) else dk
theorem okB_wrF (bs : List Bk) (k : Nat) (hk : k < 4) (hok : okB bs = true) (torn : Bool) (r : Rc) (hr : recB r.k r.s r.a r.v = true) : okB (wrF bs k r torn) = true := by
  unfold wrF
  cases h : wrN bs k r.s
  · exact okB_wr bs k hk hok torn _ _ _ _ hr h
  · exact hok
theorem okB_wiF (bs : List Bk) (k : Nat) (hk : k < 4) (hok : okB bs = true) (torn : Bool) : okB (wiF bs k torn) = true := by
  unfold wiF
  cases h : wiN bs k
  · exact okB_wi bs k hk hok torn h
  · exact hok
theorem okB_doF (bs : List Bk) (x : Stp) (torn : Bool) (hok : okB bs = true) (hx : stpB x = true) : okB (doF bs x torn) = true := by
  unfold doF; unfold stpB at hx
  by_cases h2 : x.kind = 2
  · rw [if_pos h2]
    rw [if_neg (by omega), if_pos h2] at hx
    simp [inB] at hx
    exact okB_wiF bs _ (by omega) hok torn
  · rw [if_neg h2]
    by_cases h3 : x.kind = 3
    · rw [if_pos h3]
      rw [if_neg (by omega), if_neg h2, if_pos h3] at hx
      simp [inB] at hx
      exact okB_wrF bs _ (by omega) hok torn _ hx.2
    · rw [if_neg h3]; exact hok
theorem len_doD (dk : List Int) (x : Stp) (torn : Bool) : (doD dk x torn).length = dk.length := by
  unfold doD; split
  · split <;> simp
  · rfl
def toF (bs : List Bk) : List Stp → List Bk | [] => bs | x :: r => toF (doF bs x false) r
def toD (dk : List Int) : List Stp → List Int | [] => dk | x :: r => toD (doD dk x false) r
end Go.Proofs.Ytcmklcfedeeahaa.Pl
