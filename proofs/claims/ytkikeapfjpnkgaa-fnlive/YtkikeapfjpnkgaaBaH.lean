/-
  Texts that belong together, one behind the other: SpecD, SpecN.
-/
import Derived.Test.YtkikeapfjpnkgaaBaG
import Derived.Test.YtkikeapfjpnkgaaBaA

/-
  The specification's search for a number, and its writing on blocks that it owns.
-/
namespace Go.Proofs.Ytkikeapfjpnkgaa.SpecD
open Go.ChangeShapes Go.WideShapes Go.ChangeAt Go.RowKit OkA Big Fl ImplB ImplF ImplS _root_.Go.Proofs.Ytkikeapfjpnkgaa.Own ImplT ImplU SpecA SpecB SpecC Kp
set_option linter.unusedVariables false
set_option linter.unusedSimpArgs false
attribute [local go_sem ↓] Go.wp_at_zero Go.wp_at_succ

def hasB (bs : List Bk) (q : Int) : Bool := (seqs bs).contains q
set_option maxHeartbeats 1000000 in
theorem seq_any (fb fo cap : Nat) (bs : List Bk) (q : Int) (w : World) (hF : Fours bs) (h4 : bs.length = 4) (hf : ∀ i (hi : i < bs.length), BkAt w fb (fo + i * 2) bs[i]) :
    Calls Try.prog 76 #[.slice (some ⟨fb, fo, none⟩) 4 cap, .int .i64 q] w fun e w' => e = .returned (.bool (hasB bs q)) ∧ w' = w := by
  have HF := hide hf
  clear hf
  go_enter Try.func76, Try.ntmps76
  go_wp2
  go_loop [5] (fun i => ∃ k : Nat, k ≤ 4 ∧ i = .int .i64 k ∧ Hid (q ∉ seqs (bs.take k))) (fun i => 4 - (intOf i).toNat)
  case atStart => exact ⟨0, by omega, rfl, by simp [Hid, seqs]⟩
  case round =>
    obtain ⟨k, hk, rfl, hnd⟩ := hrel
    by_cases h0 : k = 4
    · subst h0
      have HN := hide (show hasB bs q = false by unfold hasB; have := hnd.out; rw [List.take_of_length_le (by omega)] at this; simpa using this)
      go_wp2
      go_ret
      exact ⟨by rw [unhide HN]; rfl, rfl⟩
    · have hlt : (k : Int) < 4 := by omega
      have hkb : k < bs.length := by omega
      have hlo : (0 : Int) ≤ (k : Int) := by omega
      have hb4 : bs[k].ps.length = 4 := hF.at k hkb
      obtain ⟨pa, pc, c0, c1, hps⟩ := unhide HF k hkb
      obtain ⟨pb, po, rfl, hr⟩ : ∃ pb po, pa = some ⟨pb, po, none⟩ ∧ w.rangeAt pb po (psC bs[k].ps) := by
        rcases hps with h | h
        · rw [h] at hb4; simp at hb4
        · exact h
      rw [hb4] at c0
      have HR := hide hr
      have HSP := hide (seqs_split bs k hkb)
      have HST := hide (seqs_take bs k hkb)
      clear hps hr c1
      generalize bs[k] = b at *
      go_wp2
      go_loop [6] (fun i => ∃ j : Nat, j ≤ 4 ∧ i = .int .i64 j ∧ Hid (q ∉ seqsP (b.ps.take j))) (fun i => 4 - (intOf i).toNat)
      case atStart => exact ⟨0, by omega, rfl, by simp [Hid, seqsP]⟩
      case round =>
        obtain ⟨j, hj, rfl, hnj⟩ := hrel
        by_cases h0 : j = 4
        · subst h0
          go_wp2
          go_round
          case rel =>
            refine ⟨k + 1, by omega, by first | rfl | go_num, ?_⟩
            show q ∉ _
            rw [unhide HST]; have := hnj.out; rw [List.take_of_length_le (l := b.ps) (by omega)] at this
            have h2 := hnd.out
            simp only [List.mem_append]; exact fun h => h.elim h2 this
          case measure => simp [intOf]; omega
        · have hjt : (j : Int) < 4 := by omega
          have hjb : j < b.ps.length := by omega
          have hjo : (0 : Int) ≤ (j : Int) := by omega
          obtain ⟨d0, _, d2, _, _⟩ := PsAt.cells (unhide HR) j hjb
          have HSQ := hide (seqsP_take b.ps j hjb)
          have HDW := hide (drop_w b.ps j hjb)
          generalize b.ps[j] = p at *
          by_cases hp1 : p.st = 1
          · by_cases hpq : p.s = q
            · have g1 : (p.st == 1) = true := by simpa using hp1
              have g2 : (p.s == q) = true := by simpa using hpq
              have hp1h := hide hp1
              have hpqh := hide hpq
              clear hp1 hpq
              go_wp2
              have HN := hide (show hasB bs q = true from by
                unfold hasB
                rw [unhide HSP j, unhide HDW (unhide hp1h), unhide hpqh]
                simp)
              go_ret
              exact ⟨by rw [unhide HN]; rfl, rfl⟩
            · have g1 : (p.st == 1) = true := by simpa using hp1
              have g2 : (p.s == q) = false := by simpa using hpq
              have hp1h := hide hp1
              have hpqh := hide hpq
              clear hp1 hpq
              go_wp2
              go_round
              case rel =>
                have e : seqsP (b.ps.take (j + 1)) = seqsP (b.ps.take j) ++ [p.s] := by rw [unhide HSQ, seqP_w (unhide hp1h)]; rfl
                refine ⟨j + 1, by omega, by first | rfl | go_num, ?_⟩
                show q ∉ _
                rw [e]
                have h2 := hnj.out
                have h3 := unhide hpqh
                simp only [List.mem_append, List.mem_singleton]
                exact fun h => h.elim h2 (fun h => h3 h.symm)
              case measure => simp [intOf]; omega
          · have hp1' : (p.st == 1) = false := by simpa using hp1
            have hp1h := hide hp1
            clear hp1
            go_wp2
            go_round
            case rel =>
              have e : seqsP (b.ps.take (j + 1)) = seqsP (b.ps.take j) := by rw [unhide HSQ, seqP_n (unhide hp1h)]; simp
              exact ⟨j + 1, by omega, by first | rfl | go_num, by rw [e]; exact hnj⟩
            case measure => simp [intOf]; omega

/-! A page is laid over a page. -/
theorem Own.page {w : World} {lo g n : Nat} {G : List Nat} {bs : List Bk} (h : Own w lo g G bs n) (k : Nat) (hk : k < bs.length) (j : Nat) (hj : j < bs[k].ps.length) (p : Pg) :
    Own (w.setCells (G[k]'(by have := h.len; omega)) (j * 5) (pgC p)) lo g G (bs.set k ⟨bs[k].ps.set j p, bs[k].wn⟩) n := by
  have hlen := h.len
  have hGg : ∀ i (hi : i < G.length), G[i] ≠ g := fun i hi e => (List.nodup_cons.1 h.nd).1 (e ▸ List.getElem_mem hi)
  have hGG : ∀ i (hi : i < G.length), i ≠ k → G[i] ≠ G[k]'(by omega) := fun i hi hne e => by
    have hp := List.pairwise_iff_getElem.1 (List.nodup_cons.1 h.nd).2
    rcases Nat.lt_or_gt_of_ne hne with q | q
    · exact hp i k hi (by omega) q e
    · exact hp k i (by omega) hi q e.symm
  have tk : w.there (G[k]'(by omega)) (0 + j * 5) 5 := there_sub (h.free k hk) (j * 5) 5 (by omega)
  refine ⟨by simp [hlen], h.nd, h.lo, fun x hx => by rw [size_setCells]; exact h.hi x hx, by simpa using h.fit, World.there_setCells h.room _ _ _, fun i hi => ?_, fun i hi => ?_, fun i hi => ?_, fun i hi => ?_, fun i hi a m c hc => h.caps i (by simpa using hi) a m c (by rw [cell_setCells_ne (.inl (hGg k (by omega)).symm)] at hc; exact hc)⟩
  · simp only [List.length_set] at hi
    obtain ⟨c, hc⟩ := h.out i hi
    refine ⟨c, ?_⟩
    rw [cell_setCells_ne (.inl (hGg k (by omega)).symm), hc]
    by_cases e : i = k
    · subst e; simp
    · rw [List.getElem_set_ne (fun q => e q.symm)]
  · simp only [List.length_set] at hi
    rw [cell_setCells_ne (.inl (hGg k (by omega)).symm), h.worn i hi]
    by_cases e : i = k
    · subst e; simp
    · rw [List.getElem_set_ne (fun q => e q.symm)]
  · simp only [List.length_set] at hi
    by_cases e : i = k
    · subst e
      simp only [List.getElem_set_self]
      have := range_set pgC 5 (fun _ _ => rfl) j hj p rfl (h.pgs i hk) tk
      rw [Nat.zero_add] at this
      exact this
    · rw [List.getElem_set_ne (fun q => e q.symm)]
      exact World.rangeAt_setCells_apart (h.pgs i hi) _ _ _ (.inl (hGG i (by omega) e))
  · simp only [List.length_set] at hi
    by_cases e : i = k
    · subst e
      simp only [List.getElem_set_self, List.length_set]
      exact World.there_setCells (h.free i hk) _ _ _
    · rw [List.getElem_set_ne (fun q => e q.symm)]
      exact World.there_setCells (h.free i hi) _ _ _

def pgW (torn : Bool) (rk rs ra rv : Int) : Pg := if torn then ⟨2, 0, 0, 0, 0⟩ else ⟨1, rk, rs, ra, rv⟩
def wrL (bs : List Bk) (k : Nat) (p : Pg) : List Bk := bs.set k ⟨(bs.getD k zBk).ps.set (usedN (bs.getD k zBk).ps) p, (bs.getD k zBk).wn⟩
/-- No page is clean, or the number is there. -/
def wrN (bs : List Bk) (k : Nat) (rs : Int) : Bool := usedN (bs.getD k zBk).ps == 4 || hasB bs rs
def WrPost (w : World) (lo g cap : Nat) (G : List Nat) (bs : List Bk) (k : Nat) (torn : Bool) (rk rs ra rv : Int) (e : Ending) (w' : World) : Prop :=
  e = .returned (.tuple #[.slice (some ⟨g, 0, none⟩) 4 cap, .bool (!wrN bs k rs)]) ∧ Own w' lo g G (if wrN bs k rs then bs else wrL bs k (pgW torn rk rs ra rv)) 4 ∧ Kept (g :: G) w w'
theorem size_pg (p : Pg) : (Try.prog.info? 33).map (·.size) = some (pgC p).length := by rw [len_pgC]; kernel_rfl
theorem size_pga (p : Pg) : (Try.prog.info? 33).map (·.size) = some (pgC p).toArray.size := by rw [List.size_toArray, len_pgC]; kernel_rfl
theorem one_pg (p : Pg) : (pgC p).toArray.all (·.oneCell') = true := all_oneCell_toArray (one_pgC p)

set_option maxRecDepth 100000 in
set_option maxHeartbeats 2000000 in
theorem write_any (lo g cap : Nat) (G : List Nat) (bs : List Bk) (k : Nat) (torn : Bool) (rk rs ra rv : Int) (w : World) (o : Own w lo g G bs 4) (hok : okB bs = true) (hk : k < 4) :
    Calls Try.prog 47 #[.slice (some ⟨g, 0, none⟩) 4 cap, .int .i64 k, .agg #[.int .i64 rk, .int .i64 rs, .int .i64 ra, .int .i64 rv], .bool torn] w fun e w' => WrPost w lo g cap G bs k torn rk rs ra rv e w' := by
  have h4 := ok_len hok
  have hF := ok_fours hok
  have hkb : k < bs.length := by omega
  have hb4 := hF.at k hkb
  have hcu := clean_used bs[k].ps (ok_tail hok k hkb)
  have hgd : bs.getD k zBk = bs[k] := by rw [List.getD_eq_getElem?_getD, List.getElem?_eq_getElem hkb]; rfl
  have b0 : Below w.heap.size w (w.alloc (.cells #[.int .i64 rk, .int .i64 rs, .int .i64 ra, .int .i64 rv] 25)) := (Below.refl _ _).alloc (Nat.le_refl _) _
  have o0 := o.below b0 (Nat.le_refl _)
  obtain ⟨pc, c0⟩ := o0.out k hkb
  have c1 := o0.worn k hkb
  have rk0 := o0.pgs k hkb
  have hlen := o0.len
  have hGk := o0.hi (G[k]'(by omega)) (by simp)
  have hgk : g ≠ G[k]'(by omega) := fun e => (List.nodup_cons.1 o0.nd).1 (e ▸ List.getElem_mem _)
  rw [hb4] at c0 hcu
  have hki : (k : Int) < 4 := by omega
  have hk0 : (0 : Int) ≤ (k : Int) := by omega
  have c2 : (w.alloc (.cells #[.int .i64 rk, .int .i64 rs, .int .i64 ra, .int .i64 rv] 25)).rangeAt w.heap.size 0 [.int .i64 rk, .int .i64 rs, .int .i64 ra, .int .i64 rv] := rangeAt_new w _ _
  have hwlt : w.heap.size < (w.alloc (.cells #[.int .i64 rk, .int .i64 rs, .int .i64 ra, .int .i64 rv] 25)).heap.size := by simp
  have HCL := hide (fun w' => l2Clean_any (G[k]'(by omega)) 0 pc bs[k].ps bs[k].wn w' hb4)
  have HN1 : Hid (usedN bs[k].ps = 4 → wrN bs k rs = true) := fun h => by unfold wrN; rw [hgd, h]; rfl
  have HN2 : Hid (hasB bs rs = true → wrN bs k rs = true) := fun h => by unfold wrN; rw [h, Bool.or_true]
  have HN3 : Hid (¬ usedN bs[k].ps = 4 → hasB bs rs = false → wrN bs k rs = false) := fun h h' => by unfold wrN; rw [hgd, h', Bool.or_false]; simpa using h
  have HPG := hide (fun (x : World) (ox : Own x lo g G bs 4) (hu : usedN bs[k].ps < bs[k].ps.length) (p : Pg) => Own.page ox k hkb (usedN bs[k].ps) hu p)
  have HWL : Hid (∀ p, wrL bs k p = bs.set k ⟨bs[k].ps.set (usedN bs[k].ps) p, bs[k].wn⟩) := fun p => by unfold wrL; rw [hgd]
  have HTK := hide (fun (x : World) (ox : Own x lo g G bs 4) => ox.free k hkb)
  have HC0 := hide (fun (x : World) (hb : Below (w.alloc (.cells #[.int .i64 rk, .int .i64 rs, .int .i64 ra, .int .i64 rv] 25)).heap.size (w.alloc (.cells #[.int .i64 rk, .int .i64 rs, .int .i64 ra, .int .i64 rv] 25)) x) => (hb.cell (p := ⟨g, k * 2, none⟩) (o0.hi g (by simp))).trans c0)
  clear o hok
  generalize hGe : G[k]'(by omega) = gk at *
  generalize hbe : bs[k] = b at *
  have HGM : Hid (gk ∈ g :: G) := hGe ▸ (List.mem_cons_of_mem _ (List.getElem_mem _))
  have hgl : lo ≤ gk := hGe ▸ o0.lo _ (List.mem_cons_of_mem _ (List.getElem_mem _))
  have hgl2 : lo ≤ g := o0.lo g (by simp)
  have hg0 := o0.hi g (by simp)
  have HGE := hide hGe
  clear hGe hbe hgd
  have hcl : (cleanN b.ps : Int) ≤ 4 := by omega
  go_enter Try.func47, Try.ntmps47
  go_wp2_with fail
  refine (unhide HCL _ rk0).mono ?_
  rintro e w1 ⟨rfl, b1⟩
  generalize w.alloc (.cells #[.int .i64 rk, .int .i64 rs, .int .i64 ra, .int .i64 rv] 25) = w0 at *
  have o1 := o0.below b1 (Nat.le_refl _)
  have r1 := rangeAt_below c2 b1 hwlt
  have d0 := unhide HC0 w1 b1
  have e0 := r1 0 _ rfl
  have e1 := r1 1 _ rfl
  have e2 := r1 2 _ rfl
  have e3 := r1 3 _ rfl
  simp only [Nat.zero_add] at e0 e1 e2 e3
  have B1 : Kept (g :: G) w w1 := (Kept.of b0).trans (Kept.of b1)
  have s1 := b1.size
  have hww := b0.size
  clear c0 c1 rk0 c2 b1 HCL r1 o0 b0
  by_cases hz : usedN b.ps = 4
  · have hc : ((cleanN b.ps : Int) == 0) = true := by simp; omega
    have HW := hide (unhide HN1 hz)
    clear hz hcu
    go_wp2
    go_ret2
    refine ⟨by rw [unhide HW]; rfl, ?_, B1⟩
    rw [if_pos (unhide HW)]; exact o1
  have hc : ((cleanN b.ps : Int) == 0) = false := by simp; omega
  have hsq := seq_any g 0 cap bs rs w1 hF h4 (by
    rcases o1.fs with h | ⟨b', o', h1, h2⟩
    · rw [h] at h4; simp at h4
    · simp at h1; obtain ⟨rfl, rfl⟩ := h1; exact h2)
  have HS := hide hsq
  clear hsq
  cases hh : hasB bs rs
  rotate_left
  · have HW := hide (unhide HN2 hh)
    rw [hh] at HS
    clear hh
    go_wp2_with (go_at_call 76; refine (unhide HS).mono ?_; rintro e w' ⟨rfl, hw'⟩; obtain rfl := hw'.symm)
    go_ret2
    refine ⟨by rw [unhide HW]; rfl, ?_, B1⟩
    rw [if_pos (unhide HW)]; exact o1
  have HW := hide (unhide HN3 hz hh)
  rw [hh] at HS
  have hu4 : usedN b.ps < b.ps.length := by have := usedN_le b.ps; omega
  have HU : Hid ((4 : Int) - (cleanN b.ps : Int) = (usedN b.ps : Int)) := by show _ = _; omega
  have HWR : Hid (IntKind.i64.wrap (4 - (cleanN b.ps : Int)) = (usedN b.ps : Int)) := by show _ = _; rw [IntKind.wrap_i64]; omega
  have hu0 : (0 : Int) ≤ (usedN b.ps : Int) := by omega
  have hui : (usedN b.ps : Int) < 4 := by omega
  have hcl0 : (0 : Int) ≤ (cleanN b.ps : Int) := by omega
  clear hh hz hcu
  generalize cleanN b.ps = cl at *
  cases torn
  · go_wp2_with (go_at_call 76; refine (unhide HS).mono ?_; rintro e w' ⟨rfl, hw'⟩; obtain rfl := hw'.symm)
    have hcs : #[Value.int .i64 1, .int .i64 rk, .int .i64 rs, .int .i64 ra, .int .i64 rv] = (pgC ⟨1, rk, rs, ra, rv⟩).toArray := rfl
    rw [hcs]
    clear hcs
    have ba : Below w1.heap.size w1 (w1.alloc (.cells (pgC ⟨1, rk, rs, ra, rv⟩).toArray 33)) := (Below.refl _ _).alloc (Nat.le_refl _) _
    have rp := rangeAt_new w1 (pgC ⟨1, rk, rs, ra, rv⟩) 33
    have o2 := o1.below ba (Nat.le_refl _)
    have op := unhide HPG _ (o2.below ((Below.refl _ _).drew) (Nat.le_refl _)) hu4 ⟨1, rk, rs, ra, rv⟩
    have tk0 := unhide HTK _ o2
    simp only [unhide HGE] at op tk0
    have c0 := d0
    rw [← ba.cell (p := ⟨g, k * 2, none⟩) (by show g < _; omega)] at c0
    have tk : (w1.alloc (.cells (pgC ⟨1, rk, rs, ra, rv⟩).toArray 33)).there gk (usedN b.ps * 5) (pgC ⟨1, rk, rs, ra, rv⟩).toArray.size := by have := there_sub tk0 (usedN b.ps * 5) 5 (by omega); rw [Nat.zero_add] at this; exact this
    have B2 := B1.alloc (.cells (pgC ⟨1, rk, rs, ra, rv⟩).toArray 33)
    rw [← unhide HWL] at op
    have HI5 := hide (size_pga ⟨1, rk, rs, ra, rv⟩)
    have HI6 := hide (size_pg ⟨1, rk, rs, ra, rv⟩)
    have o5 := one_pg ⟨1, rk, rs, ra, rv⟩
    have hpgs : gk < w1.heap.size := by omega
    clear o2 tk0 ba o1 d0 e0 e1 e2 e3 HPG HTK
    generalize usedN b.ps = u at *
    generalize hP : pgC ⟨1, rk, rs, ra, rv⟩ = pcs at *
    clear hP
    generalize w1.alloc (.cells pcs.toArray 33) = w2 at *
    generalize w1.heap.size = pb at *
    have tkd : w2.drew.there gk (u * 5) pcs.toArray.size := (World.there_drew _ _ _ _).2 tk
    refine wp_region_noPanic ?_
    refine wp_region_held_drew (S := fun w' => w'.cell? ⟨g, k * 2, none⟩ = some (.slice (some ⟨gk, 0, none⟩) 4 pc) ∧ w'.rangeAt pb 0 pcs) (by kernel_rfl) (⟨by simpa using c0, by simpa using rp⟩) (fun hHeld => ?_)
    refine takeL 0 (.slice (some ⟨g, 0, none⟩) 4 cap) rfl (by kernel_rfl) (by kernel_rfl) (by kernel_rfl) (fun _ _ _ h => h) (Or.inl ⟨rfl, fun _ _ => rfl⟩) hHeld ?_
    try simp only [Act.put, List.setIfInBounds_toArray, List.set_cons_zero, List.set_cons_succ]
    refine takeL 1 (.int .i64 k) rfl (by kernel_rfl) (by kernel_rfl) (by kernel_rfl) (fun _ _ _ h => h) (Or.inl ⟨rfl, fun _ _ => rfl⟩) hHeld ?_
    try simp only [Act.put, List.setIfInBounds_toArray, List.set_cons_zero, List.set_cons_succ]
    refine takeL 2 (.pointer (some ⟨g, k * 2, none⟩)) rfl (by kernel_rfl) (by kernel_rfl) (by kernel_rfl) (fun _ _ _ h => h) (Or.inl ⟨rfl, fun w9 hSw => by go_simp⟩) hHeld ?_
    try simp only [Act.put, List.setIfInBounds_toArray, List.set_cons_zero, List.set_cons_succ]
    refine takeL 3 (.pointer (some ⟨g, k * 2, none⟩)) rfl (by kernel_rfl) (by kernel_rfl) (by kernel_rfl) (fun _ _ _ h => h) (Or.inl ⟨rfl, fun w9 hSw => by go_simp⟩) hHeld ?_
    try simp only [Act.put, List.setIfInBounds_toArray, List.set_cons_zero, List.set_cons_succ]
    refine takeL 4 (.slice (some ⟨gk, 0, none⟩) 4 pc) rfl (by kernel_rfl) (by kernel_rfl) (by kernel_rfl) (fun _ _ _ h => h) (Or.inl ⟨rfl, fun w9 hSw => by have hc := hSw.1; go_simp⟩) hHeld ?_
    try simp only [Act.put, List.setIfInBounds_toArray, List.set_cons_zero, List.set_cons_succ]
    refine takeL 5 (.int .i64 (cl : Int)) rfl (by kernel_rfl) (by kernel_rfl) (by kernel_rfl) (fun _ _ _ h => h) (Or.inl ⟨rfl, fun _ _ => rfl⟩) hHeld ?_
    try simp only [Act.put, List.setIfInBounds_toArray, List.set_cons_zero, List.set_cons_succ]
    refine takeL 6 (.int .i64 (u : Int)) rfl (by kernel_rfl) (by kernel_rfl) (by kernel_rfl) (fun _ _ _ h => h) (Or.inl ⟨rfl, fun w9 hSw => by have he := unhide HWR; go_simp⟩) hHeld ?_
    try simp only [Act.put, List.setIfInBounds_toArray, List.set_cons_zero, List.set_cons_succ]
    refine takeL 7 (_) rfl (by kernel_rfl) (by kernel_rfl) (by kernel_rfl) (fun _ _ _ h => h) (yieldsIf_load_mid rfl 33 _ rfl pb 0 rfl pcs _ (fun _ h => h.2) Try.underlying33 rfl (unhide HI6)) hHeld ?_
    try simp only [Act.put, List.setIfInBounds_toArray, List.set_cons_zero, List.set_cons_succ]
    refine takeL 8 (.pointer (some ⟨gk, u * 5, none⟩)) rfl (by kernel_rfl) (by kernel_rfl) (by kernel_rfl) (fun _ _ _ h => h) (Or.inl ⟨rfl, fun w9 hSw => by go_simp⟩) hHeld ?_
    try simp only [Act.put, List.setIfInBounds_toArray, List.set_cons_zero, List.set_cons_succ]
    refine oneL 9 rfl (by kernel_rfl) rfl (fun K hK => ?_)
    refine wp_store_mid 33 _ _ rfl gk (u * 5) pcs.toArray rfl rfl tkd (unhide HI5) o5 ?_
    refine hK.out _ _ ⟨by rw [cell_setCells_ne (.inl (by omega))]; exact hHeld.1, World.rangeAt_setCells_apart hHeld.2 _ _ _ (.inl (by omega))⟩ (fun hHeld => ?_)
    clear hK K
    try simp only [Act.put, List.setIfInBounds_toArray, List.set_cons_zero, List.set_cons_succ]
    refine wpAnyH_done (by kernel_rfl) ?_ _
    refine NoPanic.normal ?_
    go_wp2
    go_ret2
    refine ⟨by rw [unhide HW]; rfl, ?_, B2.drew.setCells (.inl (unhide HGM)) _ _⟩
    rw [if_neg (by rw [unhide HW]; simp)]
    exact op
  · go_wp2_with (go_at_call 76; refine (unhide HS).mono ?_; rintro e w' ⟨rfl, hw'⟩; obtain rfl := hw'.symm)
    have hcs : #[Value.int .i64 2, .int .i64 0, .int .i64 0, .int .i64 0, .int .i64 0] = (pgC ⟨2, 0, 0, 0, 0⟩).toArray := rfl
    rw [hcs]
    clear hcs
    have ba : Below w1.heap.size w1 (w1.alloc (.cells (pgC ⟨2, 0, 0, 0, 0⟩).toArray 33)) := (Below.refl _ _).alloc (Nat.le_refl _) _
    have rp := rangeAt_new w1 (pgC ⟨2, 0, 0, 0, 0⟩) 33
    have o2 := o1.below ba (Nat.le_refl _)
    have op := unhide HPG _ (o2.below ((Below.refl _ _).drew) (Nat.le_refl _)) hu4 ⟨2, 0, 0, 0, 0⟩
    have tk0 := unhide HTK _ o2
    simp only [unhide HGE] at op tk0
    have c0 := d0
    rw [← ba.cell (p := ⟨g, k * 2, none⟩) (by show g < _; omega)] at c0
    have tk : (w1.alloc (.cells (pgC ⟨2, 0, 0, 0, 0⟩).toArray 33)).there gk (usedN b.ps * 5) (pgC ⟨2, 0, 0, 0, 0⟩).toArray.size := by have := there_sub tk0 (usedN b.ps * 5) 5 (by omega); rw [Nat.zero_add] at this; exact this
    have B2 := B1.alloc (.cells (pgC ⟨2, 0, 0, 0, 0⟩).toArray 33)
    rw [← unhide HWL] at op
    have HI5 := hide (size_pga ⟨2, 0, 0, 0, 0⟩)
    have HI6 := hide (size_pg ⟨2, 0, 0, 0, 0⟩)
    have o5 := one_pg ⟨2, 0, 0, 0, 0⟩
    have hpgs : gk < w1.heap.size := by omega
    clear o2 tk0 ba o1 d0 e0 e1 e2 e3 HPG HTK
    generalize usedN b.ps = u at *
    generalize hP : pgC ⟨2, 0, 0, 0, 0⟩ = pcs at *
    clear hP
    generalize w1.alloc (.cells pcs.toArray 33) = w2 at *
    generalize w1.heap.size = pb at *
    have tkd : w2.drew.there gk (u * 5) pcs.toArray.size := (World.there_drew _ _ _ _).2 tk
    refine wp_region_noPanic ?_
    refine wp_region_held_drew (S := fun w' => w'.cell? ⟨g, k * 2, none⟩ = some (.slice (some ⟨gk, 0, none⟩) 4 pc) ∧ w'.rangeAt pb 0 pcs) (by kernel_rfl) (⟨by simpa using c0, by simpa using rp⟩) (fun hHeld => ?_)
    refine takeL 0 (.slice (some ⟨g, 0, none⟩) 4 cap) rfl (by kernel_rfl) (by kernel_rfl) (by kernel_rfl) (fun _ _ _ h => h) (Or.inl ⟨rfl, fun _ _ => rfl⟩) hHeld ?_
    try simp only [Act.put, List.setIfInBounds_toArray, List.set_cons_zero, List.set_cons_succ]
    refine takeL 1 (.int .i64 k) rfl (by kernel_rfl) (by kernel_rfl) (by kernel_rfl) (fun _ _ _ h => h) (Or.inl ⟨rfl, fun _ _ => rfl⟩) hHeld ?_
    try simp only [Act.put, List.setIfInBounds_toArray, List.set_cons_zero, List.set_cons_succ]
    refine takeL 2 (.pointer (some ⟨g, k * 2, none⟩)) rfl (by kernel_rfl) (by kernel_rfl) (by kernel_rfl) (fun _ _ _ h => h) (Or.inl ⟨rfl, fun w9 hSw => by go_simp⟩) hHeld ?_
    try simp only [Act.put, List.setIfInBounds_toArray, List.set_cons_zero, List.set_cons_succ]
    refine takeL 3 (.pointer (some ⟨g, k * 2, none⟩)) rfl (by kernel_rfl) (by kernel_rfl) (by kernel_rfl) (fun _ _ _ h => h) (Or.inl ⟨rfl, fun w9 hSw => by go_simp⟩) hHeld ?_
    try simp only [Act.put, List.setIfInBounds_toArray, List.set_cons_zero, List.set_cons_succ]
    refine takeL 4 (.slice (some ⟨gk, 0, none⟩) 4 pc) rfl (by kernel_rfl) (by kernel_rfl) (by kernel_rfl) (fun _ _ _ h => h) (Or.inl ⟨rfl, fun w9 hSw => by have hc := hSw.1; go_simp⟩) hHeld ?_
    try simp only [Act.put, List.setIfInBounds_toArray, List.set_cons_zero, List.set_cons_succ]
    refine takeL 5 (.int .i64 (cl : Int)) rfl (by kernel_rfl) (by kernel_rfl) (by kernel_rfl) (fun _ _ _ h => h) (Or.inl ⟨rfl, fun _ _ => rfl⟩) hHeld ?_
    try simp only [Act.put, List.setIfInBounds_toArray, List.set_cons_zero, List.set_cons_succ]
    refine takeL 6 (.int .i64 (u : Int)) rfl (by kernel_rfl) (by kernel_rfl) (by kernel_rfl) (fun _ _ _ h => h) (Or.inl ⟨rfl, fun w9 hSw => by have he := unhide HWR; go_simp⟩) hHeld ?_
    try simp only [Act.put, List.setIfInBounds_toArray, List.set_cons_zero, List.set_cons_succ]
    refine takeL 7 (_) rfl (by kernel_rfl) (by kernel_rfl) (by kernel_rfl) (fun _ _ _ h => h) (yieldsIf_load_mid rfl 33 _ rfl pb 0 rfl pcs _ (fun _ h => h.2) Try.underlying33 rfl (unhide HI6)) hHeld ?_
    try simp only [Act.put, List.setIfInBounds_toArray, List.set_cons_zero, List.set_cons_succ]
    refine takeL 8 (.pointer (some ⟨gk, u * 5, none⟩)) rfl (by kernel_rfl) (by kernel_rfl) (by kernel_rfl) (fun _ _ _ h => h) (Or.inl ⟨rfl, fun w9 hSw => by go_simp⟩) hHeld ?_
    try simp only [Act.put, List.setIfInBounds_toArray, List.set_cons_zero, List.set_cons_succ]
    refine oneL 9 rfl (by kernel_rfl) rfl (fun K hK => ?_)
    refine wp_store_mid 33 _ _ rfl gk (u * 5) pcs.toArray rfl rfl tkd (unhide HI5) o5 ?_
    refine hK.out _ _ ⟨by rw [cell_setCells_ne (.inl (by omega))]; exact hHeld.1, World.rangeAt_setCells_apart hHeld.2 _ _ _ (.inl (by omega))⟩ (fun hHeld => ?_)
    clear hK K
    try simp only [Act.put, List.setIfInBounds_toArray, List.set_cons_zero, List.set_cons_succ]
    refine wpAnyH_done (by kernel_rfl) ?_ _
    refine NoPanic.normal ?_
    go_wp2
    go_ret2
    refine ⟨by rw [unhide HW]; rfl, ?_, B2.drew.setCells (.inl (unhide HGM)) _ _⟩
    rw [if_neg (by rw [unhide HW]; simp)]
    exact op
/-- What FlashWrite answers. -/
def wrR (bs : List Bk) (blk : Int) (rk rs ra rv : Int) (torn : Bool) : List Bk :=
  if okB bs && inB blk 0 3 && recB rk rs ra rv then (if wrN bs blk.toNat rs then bs else wrL bs blk.toNat (pgW torn rk rs ra rv)) else []
def wrB (bs : List Bk) (blk : Int) (rk rs ra rv : Int) : Bool := okB bs && inB blk 0 3 && recB rk rs ra rv && !wrN bs blk.toNat rs
def OutPost (w : World) (R : List Bk) (ok : Bool) (e : Ending) (w' : World) : Prop := ∃ v, e = .returned (.tuple #[v, .bool ok]) ∧ NewFs w' w.heap.size v R ∧ Below w.heap.size w w'
end Go.Proofs.Ytkikeapfjpnkgaa.SpecD

/-
  The specification's new blocks: in rows of their own.
-/
namespace Go.Proofs.Ytkikeapfjpnkgaa.SpecN
open Go.ChangeShapes Go.WideShapes Go.ChangeAt Go.RowKit OkA Big Fl ImplB ImplF ImplS _root_.Go.Proofs.Ytkikeapfjpnkgaa.Own ImplT ImplU SpecA SpecB SpecC
set_option linter.unusedVariables false
set_option linter.unusedSimpArgs false

theorem made4' : madeCells #[.int .i64 0, .int .i64 0, .int .i64 0, .int .i64 0, .int .i64 0] 20 = (psC zPs).toArray := by kernel_rfl
theorem made_psl : (Try.prog.info? 33).map (fun i => (i.zero, i.size, i.bytes)) = some (some (.agg #[.int .i64 0, .int .i64 0, .int .i64 0, .int .i64 0, .int .i64 0]), 5, 40) := by kernel_rfl

set_option maxHeartbeats 2000000 in
theorem new_any4 (w : World) : Calls Try.prog 118 #[] w fun e w' => ∃ g G c, e = .returned (.slice (some ⟨g, 0, none⟩) 4 c) ∧ Own w' w.heap.size g G zFs 4 ∧ Below w.heap.size w w' ∧ 4 ≤ c := by
  have hz4 : zFs.length = 4 := rfl
  have hzb : ∀ k (h : k < zFs.length), zFs[k] = zBk := fun k h => by
    have hm := List.getElem_mem h
    simp only [zFs, List.mem_cons, List.not_mem_nil, or_false, or_self] at hm
    exact hm
  have hzp : zBk.ps = zPs := rfl
  have hzw : zBk.wn = 0 := rfl
  have hz5 : zPs.length = 4 := rfl
  have HM := hide made4'
  generalize zFs = bs at *
  go_enter Try.func118, Try.ntmps118
  go_wp2
  have o1 : Grow (w.alloc (.cells #[] 36)) w.heap.size (.slice (some ⟨w.heap.size, 0, none⟩) 0 0) [] [] [] := by
    refine ⟨World.ownsRow_lit w #[] 0 (Nat.le_refl _) (by simp [maxLen]) rfl, fun g hg => ?_, rfl, by simp, by simp, by simp, fun i hi => by simp at hi, fun i hi => by simp at hi, fun i hi => by simp at hi, fun i hi => by simp at hi, fun i hi => by simp at hi⟩
    have : w.heap.size = g := Option.some.inj hg
    subst this
    exact ⟨Nat.le_refl _, by simp, by simp⟩
  have b0 : Below w.heap.size w (w.alloc (.cells #[] 36)) := (Below.refl _ _).alloc (Nat.le_refl _) _
  generalize w.alloc (.cells #[] 36) = w1 at *
  go_loopw [1, 2] (fun v i w' => ∃ k : Nat, k ≤ 4 ∧ i = .int .i64 k ∧ (∃ G ocs, Grow w' w.heap.size v G ocs (bs.take k)) ∧ Below w.heap.size w w') (fun _ i _ => 4 - (intOf i).toNat)
  case atStart => exact ⟨0, by omega, rfl, ⟨[], [], by simpa using o1⟩, b0⟩
  case round =>
    obtain ⟨k, hk, rfl, ⟨G, ocs, ok⟩, bw⟩ := hrel
    clear o1 b0
    by_cases h0 : k = 4
    · subst h0
      rw [List.take_of_length_le (by omega)] at ok
      obtain ⟨g, c, rfl, o⟩ := ok.toOwn (by omega)
      have hc4 : 4 ≤ c := by have := row_cap (by omega) ok.row; omega
      rw [hz4] at o
      clear HM
      go_wp2
      go_ret
      exact ⟨g, G, c, by rw [hz4]; rfl, o, bw, hc4⟩
    · have hlt : (k : Int) < 4 := by omega
      have hkb : k < bs.length := by omega
      have tl : (bs.take k).length = k := by simp; omega
      have HT := hide (List.take_succ_eq_append_getElem hkb)
      rw [hzb k hkb] at HT
      have hold := ownB_lt ok
      have hww := bw.size
      have bA : Below wr.heap.size wr (wr.alloc (.cells (psC zPs).toArray 33)) := (Below.refl _ _).alloc (Nat.le_refl _) _
      have rA := rangeAt_new wr (psC zPs) 33
      have tA : (wr.alloc (.cells (psC zPs).toArray 33)).there wr.heap.size 0 20 := there_new wr (psC zPs) 33
      have oA := ok.far bA hold
      have BA := bw.alloc bw.size (.cells (psC zPs).toArray 33)
      have sA : (wr.alloc (.cells (psC zPs).toArray 33)).heap.size = wr.heap.size + 1 := by simp
      have oC := oA.far (B := wr.heap.size + 1) ((Below.refl _ _).alloc (by omega) (.cells #[.slice (some ⟨wr.heap.size, 0, none⟩) 4 4, .int .i64 0] 36)) (fun x hx => by have := hold x hx; omega)
      have BC := BA.alloc BA.size (.cells #[.slice (some ⟨wr.heap.size, 0, none⟩) 4 4, .int .i64 0] 36)
      have rC := World.rangeAt_alloc rA (.cells #[.slice (some ⟨wr.heap.size, 0, none⟩) 4 4, .int .i64 0] 36)
      have tC := World.there_alloc tA (.cells #[.slice (some ⟨wr.heap.size, 0, none⟩) 4 4, .int .i64 0] 36)
      have nC := World.news_of_block (heap_alloc_new (wr.alloc (.cells (psC zPs).toArray 33)) (.cells #[.slice (some ⟨wr.heap.size, 0, none⟩) 4 4, .int .i64 0] 36))
      have sC : ((wr.alloc (.cells (psC zPs).toArray 33)).alloc (.cells #[.slice (some ⟨wr.heap.size, 0, none⟩) 4 4, .int .i64 0] 36)).heap.size = wr.heap.size + 1 + 1 := by simp
      obtain ⟨iB, hiB, hzB, hsB, hbB⟩ := infoB
      have HiB := hide hiB
      have HzB := hide hzB
      have HsB := hide hsB
      have HbB := hide hbB
      have HrC := hide (show ((wr.alloc (.cells (psC zPs).toArray 33)).alloc (.cells #[.slice (some ⟨wr.heap.size, 0, none⟩) 4 4, .int .i64 0] 36)).ownsRow w.heap.size 36 2 u1 k ocs by have := oC.row; rw [tl] at this; exact this)
      rw [sA] at nC
      clear hiB hzB hsB hbB bA rA tA oA BA sA
      go_wp2_with (first | (refine wpList_make_big rfl 34 _ _ rfl 4 rfl rfl 33 5 40 _ Try.underlying34 made_psl (by omega) (by omega) ?_; simp only [Value.cells]; rw [unhide HM]) | (refine wpList_append_lies _ rfl _ _ 23 rfl w.heap.size 36 iB (.agg #[.slice none 0 0, .int .i64 0]) 2 32 Try.underlying23 (unhide HiB) (unhide HzB) (unhide HsB) (unhide HbB) rfl (by omega) u1 k ocs rfl (unhide HrC) ⟨wr.heap.size + 1, 0, none⟩ 1 1 [.slice (some ⟨wr.heap.size, 0, none⟩) 4 4, .int .i64 0] rfl rfl nC (by intro u hu; simp at hu; rcases hu with rfl | rfl <;> rfl) (by omega) (by simp [maxLen]; omega) (by omega) (by simp; omega) _ sC ?_; intro g' cap' wD ownD growD atD ltD))
      have oD := oC.push wr.heap.size 4 zBk (by omega) (by rw [sC]; omega) (fun h => by have := hold _ (.inl h); omega) (fun h => by have := hold _ (.inr h); omega) rC tC g' cap' (by rw [tl]; exact ownD) growD (by rw [sC]; exact atD) ltD (by rw [sC]; omega) (by decide)
      have BD := BC.trans ((Below.refl w.heap.size _).grown growD (by rw [sC]; omega) (fun q hq => (oC.own q hq).1))
      rw [tl] at oD
      go_roundw
      case rel => exact ⟨k + 1, by omega, by first | rfl | go_num, ⟨G ++ [wr.heap.size], _, by rw [unhide HT]; exact oD⟩, BD⟩
      case measure => simp [intOf]; omega
theorem new_any (w : World) : Calls Try.prog 118 #[] w fun e w' => ∃ g G c, e = .returned (.slice (some ⟨g, 0, none⟩) 4 c) ∧ Own w' w.heap.size g G zFs 4 ∧ Below w.heap.size w w' := by
  refine (new_any4 w).mono ?_
  rintro e w' ⟨g, G, c, h1, h2, h3, _⟩
  exact ⟨g, G, c, h1, h2, h3⟩
end Go.Proofs.Ytkikeapfjpnkgaa.SpecN
