/-
  Texts that belong together, one behind the other: StA, RmA, WrA.
-/
import Derived.Test.YtkikeapfjpnkgaaBaS
import Derived.Test.YtkikeapfjpnkgaaBaQ

/-
  Stores in memory, and the specification's reading of them.
-/
namespace Go.Proofs.Ytkikeapfjpnkgaa.StA
open Go.ChangeShapes Go.WideShapes Go.ChangeAt Go.RowKit Go.Shelf OkA Big Fl ImplB ImplF ImplS _root_.Go.Proofs.Ytkikeapfjpnkgaa.Own ImplT ImplU SpecA SpecB SpecC SpecD SpecW SpecF SpecG SpecH Ok2 Pl FindP SpecX ImplL FindN FindL FindV Kp
set_option linter.unusedVariables false
set_option linter.unusedSimpArgs false
attribute [local go_sem ↓] Go.wp_at_zero Go.wp_at_succ

/-- Numbers as cells. -/
def isC (l : List Int) : List Value := l.map (.int .i64)
theorem len_isC (l : List Int) : (isC l).length = l.length := by simp [isC]
theorem isC_at {w : World} {b o : Nat} {l : List Int} (h : w.rangeAt b o (isC l)) (j : Nat) (hj : j < l.length) : w.cell? ⟨b, o + j, none⟩ = some (.int .i64 (l.getD j 0)) := by
  refine h j _ ?_
  simp [isC, hj]

/-- The blocks of a list of four lie at a place: the cells of its slices, in any later world. -/
theorem store_box (w : World) (x y : Value) : CsAt (w.alloc (.cells #[x, y] 54)) w.heap.size [x, y] := CsAt.new w [x, y] 54

set_option maxRecDepth 100000 in
set_option maxHeartbeats 1000000 in
theorem dirty_any (a : Option Addr) (cap : Nat) (dv : Value) (addr : Int) (bs : List Bk) (w : World) (hf : FsAt w a bs) (hm : bs.length ≤ 1048576) (hp : ∀ b ∈ bs, b.ps.length ≤ 1048576) :
    Calls Try.prog 123 #[.agg #[.slice a bs.length cap, dv], .int .i64 addr] w fun e w' => e = .returned (.bool (dirtyB bs addr)) ∧ Below w.heap.size w w' := by
  have B0 : Below w.heap.size w (w.alloc (.cells #[.slice a bs.length cap, dv] 54)) := (Below.refl _ _).alloc (Nat.le_refl _) _
  have HLA := hide (SpecL.last_any a cap bs addr _ (hf.below B0) hm hp)
  have HD : Hid (dirtyB bs addr = (lastO bs addr && (lastR bs addr).k == 1)) := rfl
  clear hf
  generalize dirtyB bs addr = R at *
  go_enter Try.func123, Try.ntmps123
  go_wp2_with fail
  refine (unhide HLA).mono ?_
  rintro e w1 ⟨rfl, b1⟩
  generalize lastO bs addr = o at *
  generalize lastR bs addr = r at *
  have B1 := (B0.trans (b1.mono B0.size)).alloc (B0.trans (b1.mono B0.size)).size (.cells #[.int .i64 r.k, .int .i64 r.s, .int .i64 r.a, .int .i64 r.v] 25)
  rw [show (rcC r).toArray = #[.int .i64 r.k, .int .i64 r.s, .int .i64 r.a, .int .i64 r.v] from rfl]
  clear HLA b1 B0
  cases o
  · go_wp2
    go_ret
    exact ⟨by rw [unhide HD]; rfl, B1⟩
  · go_wp2
    go_ret
    exact ⟨by rw [unhide HD]; rfl, B1⟩

set_option maxRecDepth 100000 in
set_option maxHeartbeats 1000000 in
theorem read_any (a : Option Addr) (cap db dof dcap : Nat) (dk : List Int) (h6 : dk.length = 6) (addr : Int) (ha0 : 1 ≤ addr) (ha6 : addr ≤ 6) (bs : List Bk) (w : World) (hf : FsAt w a bs) (hd : w.rangeAt db dof (isC dk)) (hm : bs.length ≤ 1048576) (hp : ∀ b ∈ bs, b.ps.length ≤ 1048576) :
    Calls Try.prog 124 #[.agg #[.slice a bs.length cap, .slice (some ⟨db, dof, none⟩) 6 dcap], .int .i64 addr] w fun e w' => e = .returned (.int .i64 (readI bs dk addr)) ∧ Below w.heap.size w w' := by
  have B0 : Below w.heap.size w (w.alloc (.cells #[.slice a bs.length cap, .slice (some ⟨db, dof, none⟩) 6 dcap] 54)) := (Below.refl _ _).alloc (Nat.le_refl _) _
  have HLA := hide (SpecL.last_any a cap bs addr _ (hf.below B0) hm hp)
  have HD : Hid (readI bs dk addr = if lastO bs addr then (lastR bs addr).v else dk.getD (addr - 1).toNat 0) := rfl
  have hdl : db < w.heap.size := cell_lt (isC_at hd 0 (by omega))
  have cS := store_box w (.slice a bs.length cap) (.slice (some ⟨db, dof, none⟩) 6 dcap)
  have hs0 : w.heap.size < (w.alloc (.cells #[.slice a bs.length cap, .slice (some ⟨db, dof, none⟩) 6 dcap] 54)).heap.size := by simp
  obtain ⟨n, rfl⟩ : ∃ n : Nat, addr = (n : Int) + 1 := ⟨(addr - 1).toNat, by omega⟩
  have hn6 : n < 6 := by omega
  have e1 : ((n : Int) + 1 - 1).toNat = n := by omega
  rw [e1] at HD
  have dn := isC_at hd n (by omega)
  clear hf hd
  generalize readI bs dk ((n : Int) + 1) = R at *
  go_enter Try.func124, Try.ntmps124
  go_wp2_with fail
  refine (unhide HLA).mono ?_
  rintro e w1 ⟨rfl, b1⟩
  generalize lastO bs ((n : Int) + 1) = o at *
  generalize lastR bs ((n : Int) + 1) = r at *
  generalize dk.getD n 0 = v at *
  rw [show (rcC r).toArray = #[.int .i64 r.k, .int .i64 r.s, .int .i64 r.a, .int .i64 r.v] from rfl]
  have B1 := B0.trans (b1.mono B0.size)
  have B2 := B1.alloc B1.size (.cells #[.int .i64 r.k, .int .i64 r.s, .int .i64 r.a, .int .i64 r.v] 25)
  have cS2 := (cS.below b1 hs0).alloc (Nat.lt_of_lt_of_le hs0 b1.size) (.cells #[.int .i64 r.k, .int .i64 r.s, .int .i64 r.a, .int .i64 r.v] 25)
  have x1 := cS2.cell 1 _ rfl
  rw [← B2.cell (p := ⟨db, dof + n, none⟩) hdl] at dn
  have hn0 : (0 : Int) ≤ (n : Int) := by omega
  have hnl : (n : Int) < 6 := by omega
  clear HLA b1 B0 B1 cS
  cases o
  · have e2 : ((n : Int) + 1 - 1) = (n : Int) := by omega
    go_wp2
    go_ret
    exact ⟨by rw [unhide HD]; rfl, B2⟩
  · go_wp2
    go_ret
    exact ⟨by rw [unhide HD]; rfl, B2⟩
end Go.Proofs.Ytkikeapfjpnkgaa.StA

/-
  The specification's room: by which steps there is a clean page.
-/
namespace Go.Proofs.Ytkikeapfjpnkgaa.RmA
open Go.ChangeShapes Go.WideShapes Go.ChangeAt Go.RowKit Go.Shelf OkA Big Fl ImplB ImplF ImplS _root_.Go.Proofs.Ytkikeapfjpnkgaa.Own ImplT ImplU SpecA SpecB SpecC SpecD SpecW SpecF SpecG SpecH Ok2 Pl FindP SpecX ImplL FindN FindL FindV Kp StA
set_option linter.unusedVariables false
set_option linter.unusedSimpArgs false
attribute [local go_sem ↓] Go.wp_at_zero Go.wp_at_succ

/-! A row of steps that grows. -/
structure Sts (w : World) (lo : Nat) (v : Value) (l : List Stp) : Prop where
  row : w.ownsRow lo 60 8 v l.length (stsC l)
  lt : ∀ g, v.ownBlock = some g → lo ≤ g ∧ g < w.heap.size
theorem made_st : (Try.prog.info? 60).map (fun i => (i.zero, i.size, i.bytes)) = some (some (.agg (stC zSt).toArray), 8, 64) := by kernel_rfl
theorem infoS : ∃ i, Try.prog.info? 60 = some i ∧ i.zero = some (.agg (stC zSt).toArray) ∧ i.size = 8 ∧ i.bytes = 64 := by
  have h := made_st
  cases hq : Try.prog.info? 60 with
  | none => rw [hq] at h; cases h
  | some i => rw [hq] at h; simp at h; exact ⟨i, rfl, h.1, h.2.1, h.2.2⟩
theorem Sts.below {w w' : World} {lo : Nat} {v : Value} {l : List Stp} (h : Sts w lo v l) {B : Nat} (hb : Below B w w') (hB : w.heap.size ≤ B) : Sts w' lo v l :=
  ⟨ownsRow_below h.row hb (fun g hg => Nat.lt_of_lt_of_le (h.lt g hg).2 hB), fun g hg => ⟨(h.lt g hg).1, Nat.lt_of_lt_of_le (h.lt g hg).2 hb.size⟩⟩
theorem Sts.nil (w : World) (lo : Nat) (hl : lo ≤ w.heap.size) : Sts (w.alloc (.cells #[] 60)) lo (.slice (some ⟨w.heap.size, 0, none⟩) 0 0) [] :=
  ⟨World.ownsRow_lit w #[] 0 hl (by simp [maxLen]) rfl, fun g hg => by simp [Value.ownBlock] at hg; subst hg; exact ⟨hl, by simp⟩⟩
theorem Sts.mono {w : World} {lo lo' : Nat} {v : Value} {l : List Stp} (h : Sts w lo v l) (hl : lo' ≤ lo) : Sts w lo' v l := by
  refine ⟨?_, fun g hg => ⟨Nat.le_trans hl (h.lt g hg).1, (h.lt g hg).2⟩⟩
  obtain ⟨h1, h2⟩ := h.row
  refine ⟨h1, ?_⟩
  rcases h2 with h2 | ⟨g, cap, cur, e, hb, r⟩
  · exact .inl h2
  · exact .inr ⟨g, cap, cur, e, Nat.le_trans hl hb, r⟩
theorem one_stC (x : Stp) : ∀ v ∈ stC x, v.oneCell' = true := by intro v hv; simp [stC] at hv; rcases hv with rfl | rfl | rfl | rfl | rfl | rfl | rfl | rfl <;> rfl
theorem stsC_one (l : List Stp) (x : Stp) : stsC (l ++ [x]) = stsC l ++ stC x := by simp [stsC]
/-- What a row that was appended to is. -/
theorem Sts.push {w w' : World} {lo : Nat} {v v' : Value} {l : List Stp} {x : Stp} (h : Sts w lo v l) (hlo : lo ≤ w.heap.size) (ho : w'.ownsRow lo 60 8 v' (l.length + 1) (stsC l ++ stC x)) (hg : w.grownBy w' v.ownBlock) : Sts w' lo v' (l ++ [x]) ∧ Below lo w w' := by
  refine ⟨⟨by rw [stsC_one, List.length_append]; exact ho, fun g e => ?_⟩, (Below.refl _ _).grown hg hlo (fun k e => (h.lt k e).1)⟩
  obtain ⟨_, h2⟩ := ho
  rcases h2 with ⟨_, h2⟩ | ⟨g', cap, cur, rfl, hb, hh, _⟩
  · omega
  · simp [Value.ownBlock] at e
    subst e
    refine ⟨hb, ?_⟩
    by_cases hlt : g' < w'.heap.size
    · exact hlt
    · have : w'.heap[g']? = none := by simp; omega
      rw [this] at hh; cases hh
def RoomPost (w : World) (bs : List Bk) (e : Ending) (w' : World) : Prop := ∃ v, e = .returned (.tuple #[v, .int .i64 (roomB bs), .bool (roomO bs)]) ∧ Sts w' w.heap.size v (roomL bs) ∧ Below w.heap.size w w'
theorem tellP_take (bs : List Bk) (ps : List Pg) (k : Nat) (hk : k < ps.length) : tellP bs (ps.take (k + 1)) = tellP bs (ps.take k) ++ (if liveB bs ps[k] && ps[k].k == 1 then [diskS ps[k].a ps[k].v] else []) := by
  unfold tellP
  rw [List.take_succ_eq_append_getElem hk, List.filterMap_append]
  congr 1
  cases h : liveB bs ps[k] && ps[k].k == 1 <;> simp only [List.filterMap_cons, List.filterMap_nil, h] <;> rfl
theorem tellP_len (bs : List Bk) (ps : List Pg) : (tellP bs ps).length ≤ ps.length := List.length_filterMap_le _ _

set_option maxRecDepth 100000 in
set_option maxHeartbeats 4000000 in
theorem room_any (fb fo cap : Nat) (dv : Value) (bs : List Bk) (w : World) (hF : Fours bs) (h4 : bs.length = 4) (hf : ∀ i (hi : i < bs.length), BkAt w fb (fo + i * 2) bs[i]) :
    Calls Try.prog 100 #[.agg #[.slice (some ⟨fb, fo, none⟩) 4 cap, dv]] w fun e w' => RoomPost w bs e w' := by
  have hfs : FsAt w (some ⟨fb, fo, none⟩) bs := .inr ⟨fb, fo, rfl, hf⟩
  have B0 : Below w.heap.size w ((w.alloc (.cells #[.slice (some ⟨fb, fo, none⟩) 4 cap, dv] 54)).alloc (.cells #[] 60)) := ((Below.refl _ _).alloc (Nat.le_refl _) _).alloc (by simp) _
  have cS := (store_box w (.slice (some ⟨fb, fo, none⟩) 4 cap) dv).alloc (by simp) (.cells #[] 60)
  have sN := Sts.nil (w.alloc (.cells #[.slice (some ⟨fb, fo, none⟩) 4 cap, dv] 54)) (w.heap.size + 1) (by simp)
  rw [World.size_alloc] at sN
  have s0 : ((w.alloc (.cells #[.slice (some ⟨fb, fo, none⟩) 4 cap, dv] 54)).alloc (.cells #[] 60)).heap.size = w.heap.size + 2 := by simp
  have HOP := hide (fun (w' : World) (hb : Below w.heap.size w w') => SpecH.open_any fb fo cap bs w' hF h4 (fun i hi => (hf i hi).below hb))
  have HOL : Hid (∀ w', Below w.heap.size w w' → Calls Try.prog 62 #[.slice (some ⟨fb, fo, none⟩) 4 cap] w' fun e w'' => e = .returned (.int .i64 (oldB bs : Nat)) ∧ Below w'.heap.size w' w'') := fun w' hb => by
    have := SpecG.old_any (some ⟨fb, fo, none⟩) cap bs w' (hfs.below hb) (by omega) (fun b hb => by rw [hF b hb]; omega) (by omega)
    rw [h4] at this; exact this
  have HLV : Hid (∀ (p : Pg) w', Below w.heap.size w w' → Calls Try.prog 59 #[.slice (some ⟨fb, fo, none⟩) 4 cap, .agg #[.int .i64 p.st, .int .i64 p.k, .int .i64 p.s, .int .i64 p.a, .int .i64 p.v]] w' fun e w'' => e = .returned (.bool (liveB bs p)) ∧ Below w'.heap.size w' w'') := fun p w' hb => by
    have := live_any (some ⟨fb, fo, none⟩) cap bs p w' (hfs.below hb) (by omega) (fun b hb => by rw [hF b hb]; omega)
    rw [h4] at this; exact this
  have HO1 : Hid (roomB bs = if (openR bs).2 then (openR bs).1 else oldB bs) := rfl
  have HO2 : Hid (roomO bs = ((openR bs).2 || decide ((bs.getD (oldB bs) zBk).wn < 200))) := rfl
  have HO3 : Hid (roomL bs = if (openR bs).2 then [] else tellP bs (bs.getD (oldB bs) zBk).ps ++ [wipeS (oldB bs)]) := rfl
  have HOB := oldN_le bs 3
  have hob : oldB bs < bs.length := by unfold oldB; omega
  rw [getD_at bs _ hob] at HO2 HO3
  obtain ⟨pa, pc, q0, q1, qp⟩ := hf (oldB bs) hob
  have hb4 : bs[oldB bs].ps.length = 4 := hF.at _ hob
  obtain ⟨pb, po, rfl, hr⟩ : ∃ pb po, pa = some ⟨pb, po, none⟩ ∧ w.rangeAt pb po (psC bs[oldB bs].ps) := by
    rcases qp with h | h
    · rw [h] at hb4; simp at hb4
    · exact h
  rw [hb4] at q0
  have HQR := hide hr
  have lf : fb < w.heap.size := cell_lt q0
  have lp : pb < w.heap.size := cell_lt (PsAt.cells hr 0 (by omega)).1
  have ho4 : (oldB bs : Int) < 4 := by omega
  have ho0 : (0 : Int) ≤ (oldB bs : Int) := by omega
  have HF2 := hide hf
  clear hf hfs hr qp HOB
  go_enter Try.func100, Try.ntmps100
  go_wp2_with fail
  generalize (w.alloc (.cells #[.slice (some ⟨fb, fo, none⟩) 4 cap, dv] 54)).alloc (.cells #[] 60) = w1 at *
  refine (unhide HOP _ B0).mono ?_
  rintro e w2 ⟨rfl, b2⟩
  have B2 := B0.trans (b2.mono B0.size)
  have cS2 := cS.below b2 (by omega)
  have sN2 := sN.below b2 (Nat.le_refl _)
  have s2 : w.heap.size + 2 ≤ w2.heap.size := by have := b2.size; omega
  clear B0 b2 cS sN HOP s0
  generalize (openR bs).1 = ob at *
  cases hoo : (openR bs).2
  rotate_left
  · rw [hoo] at HO1 HO2 HO3
    simp only [if_true, Bool.true_or] at HO1 HO2 HO3
    clear hoo
    go_wp2
    go_ret3
    exact ⟨_, by rw [unhide HO1, unhide HO2]; rfl, by rw [unhide HO3]; exact sN2.mono (by omega), B2⟩
  · rw [hoo] at HO1 HO2 HO3
    simp only [Bool.false_eq_true, if_false, Bool.false_or] at HO1 HO2 HO3
    clear hoo
    have x0 := cS2.cell 0 _ rfl
    go_wp2_with fail
    refine (unhide HOL _ B2).mono ?_
    rintro e w3 ⟨rfl, b3⟩
    have B3 := B2.trans (b3.mono B2.size)
    have cS3 := cS2.below b3 (by omega)
    have sN3 := sN2.below b3 (Nat.le_refl _)
    have s3 : w.heap.size + 2 ≤ w3.heap.size := by have := b3.size; omega
    clear B2 b3 cS2 sN2 s2 x0 HOL
    generalize hod : oldB bs = od at *
    clear hod
    generalize bs[od] = b at *
    have HTP0 : Hid (tellP bs (b.ps.take 0) = []) := rfl
    have HTP4 : Hid (tellP bs (b.ps.take 4) = tellP bs b.ps) := by show _ = _; rw [List.take_of_length_le (by omega)]
    go_wp2
    go_loopw [5, 9] (fun v k w' => ∃ n : Nat, n ≤ 4 ∧ k = .int .i64 n ∧ Sts w' (w.heap.size + 1) v (tellP bs (b.ps.take n)) ∧ CsAt w' w.heap.size [.slice (some ⟨fb, fo, none⟩) 4 cap, dv] ∧ w.heap.size + 2 ≤ w'.heap.size ∧ Below w.heap.size w w') (fun _ k _ => 4 - (intOf k).toNat)
    case atStart => exact ⟨0, by omega, rfl, by rw [unhide HTP0]; exact sN3, cS3, s3, B3⟩
    case round =>
      clear B3 cS3 sN3 s3
      obtain ⟨n, hn, rfl, hS, hC, hsz, hB⟩ := hrel
      have y0 := hC.cell 0 _ rfl
      have z0 := q0
      rw [← hB.cell (p := ⟨fb, fo + od * 2, none⟩) lf] at z0
      by_cases h0 : n = 4
      · subst h0
        rw [unhide HTP4] at hS
        have z1 := q1
        rw [← hB.cell (p := ⟨fb, fo + od * 2 + 1, none⟩) lf] at z1
        have HLT : Hid (roomL bs = tellP bs b.ps ++ [wipeS od]) := HO3
        have hl4 : (tellP bs b.ps).length ≤ 4 := by have := tellP_len bs b.ps; omega
        generalize tellP bs b.ps = L at *
        obtain ⟨iS, hiS, hzS, hsS, hbS⟩ := infoS
        go_wp2_with fail
        refine wp_region_noPanic ?_
        refine wp_region_held_drew (S := fun w' => (w'.cell? ⟨w.heap.size, 0, none⟩ = some (.slice (some ⟨fb, fo, none⟩) 4 cap) ∧ w'.cell? ⟨fb, fo + od * 2 + 1, none⟩ = some (.int .i64 b.wn)) ∧ w.heap.size < w'.heap.size) (by kernel_rfl) (⟨⟨by simpa using y0, by simpa using z1⟩, by show w.heap.size < wr.heap.size; omega⟩) (fun hHeld => ?_)
        refine takeL 0 (u5) rfl (by kernel_rfl) (by kernel_rfl) (by kernel_rfl) (fun _ _ _ h => h) (Or.inl ⟨rfl, fun _ _ => rfl⟩) hHeld ?_
        try simp only [Act.put, List.setIfInBounds_toArray, List.set_cons_zero, List.set_cons_succ]
        refine takeL 1 (.int .i64 (od : Nat)) rfl (by kernel_rfl) (by kernel_rfl) (by kernel_rfl) (fun _ _ _ h => h) (Or.inl ⟨rfl, fun _ _ => rfl⟩) hHeld ?_
        try simp only [Act.put, List.setIfInBounds_toArray, List.set_cons_zero, List.set_cons_succ]
        refine takeL 2 (.agg #[.int .i64 2, .int .i64 0, .int .i64 0, .int .i64 (od : Nat), .int .i64 0, .int .i64 0, .int .i64 0, .int .i64 0]) rfl (by kernel_rfl) (by kernel_rfl) (by kernel_rfl) (fun _ _ _ h => h) (Or.inl ⟨rfl, fun w9 hSw => by go_simp⟩) hHeld ?_
        try simp only [Act.put, List.setIfInBounds_toArray, List.set_cons_zero, List.set_cons_succ]
        refine takeL 5 (.int .i64 (od : Nat)) rfl (by kernel_rfl) (by kernel_rfl) (by kernel_rfl) (fun _ _ _ h => h) (Or.inl ⟨rfl, fun _ _ => rfl⟩) hHeld ?_
        try simp only [Act.put, List.setIfInBounds_toArray, List.set_cons_zero, List.set_cons_succ]
        refine takeL 6 (.pointer (some ⟨w.heap.size, 0, none⟩)) rfl (by kernel_rfl) (by kernel_rfl) (by kernel_rfl) (fun _ _ _ h => h) (Or.inl ⟨rfl, fun w9 hSw => by go_simp⟩) hHeld ?_
        try simp only [Act.put, List.setIfInBounds_toArray, List.set_cons_zero, List.set_cons_succ]
        refine takeL 7 (.slice (some ⟨fb, fo, none⟩) 4 cap) rfl (by kernel_rfl) (by kernel_rfl) (by kernel_rfl) (fun _ _ _ h => h) (Or.inl ⟨rfl, fun w9 hSw => by have hc := hSw.1.1; go_simp⟩) hHeld ?_
        try simp only [Act.put, List.setIfInBounds_toArray, List.set_cons_zero, List.set_cons_succ]
        refine takeL 8 (.int .i64 (od : Nat)) rfl (by kernel_rfl) (by kernel_rfl) (by kernel_rfl) (fun _ _ _ h => h) (Or.inl ⟨rfl, fun _ _ => rfl⟩) hHeld ?_
        try simp only [Act.put, List.setIfInBounds_toArray, List.set_cons_zero, List.set_cons_succ]
        refine takeL 9 (.pointer (some ⟨fb, fo + od * 2, none⟩)) rfl (by kernel_rfl) (by kernel_rfl) (by kernel_rfl) (fun _ _ _ h => h) (Or.inl ⟨rfl, fun w9 hSw => by go_simp⟩) hHeld ?_
        try simp only [Act.put, List.setIfInBounds_toArray, List.set_cons_zero, List.set_cons_succ]
        refine takeL 10 (.pointer (some ⟨fb, fo + od * 2 + 1, none⟩)) rfl (by kernel_rfl) (by kernel_rfl) (by kernel_rfl) (fun _ _ _ h => h) (Or.inl ⟨rfl, fun w9 hSw => by go_simp⟩) hHeld ?_
        try simp only [Act.put, List.setIfInBounds_toArray, List.set_cons_zero, List.set_cons_succ]
        refine takeL 11 (.int .i64 b.wn) rfl (by kernel_rfl) (by kernel_rfl) (by kernel_rfl) (fun _ _ _ h => h) (Or.inl ⟨rfl, fun w9 hSw => by have hc := hSw.1.2; go_simp⟩) hHeld ?_
        try simp only [Act.put, List.setIfInBounds_toArray, List.set_cons_zero, List.set_cons_succ]
        refine takeL 12 (.bool (decide (b.wn < 200))) rfl (by kernel_rfl) (by kernel_rfl) (by kernel_rfl) (fun _ _ _ h => h) (Or.inl ⟨rfl, fun w9 hSw => by go_simp⟩) hHeld ?_
        try simp only [Act.put, List.setIfInBounds_toArray, List.set_cons_zero, List.set_cons_succ]
        refine oneL 3 rfl (by kernel_rfl) rfl (fun K hK => ?_)
        go_simp
        have bm : Below wr.heap.size wr (wr.alloc (.cells (stC (wipeS od)).toArray 60)).drew := ((Below.refl _ _).alloc (Nat.le_refl _) _).drew
        have hS6 := hS.below bm (Nat.le_refl _)
        have hB6 := hB.trans (bm.mono hB.size)
        have hC6 := hC.below bm (by omega)
        have nw : CsAt (wr.alloc (.cells (stC (wipeS od)).toArray 60)).drew wr.heap.size (stC (wipeS od)) := ⟨fun j v hv => (CsAt.new wr (stC (wipeS od)) 60).cells j v hv, fun j hj => (CsAt.new wr (stC (wipeS od)) 60).free j hj⟩
        have hsz6 : wr.heap.size + 1 = (wr.alloc (.cells (stC (wipeS od)).toArray 60)).drew.heap.size := by simp
        refine hK.out _ _ ⟨⟨(bm.cell (p := ⟨w.heap.size, 0, none⟩) (by show w.heap.size < _; omega)).trans y0, (bm.cell (p := ⟨fb, fo + od * 2 + 1, none⟩) (by show fb < _; omega)).trans z1⟩, by show w.heap.size < (wr.alloc (.cells (stC (wipeS od)).toArray 60)).drew.heap.size; omega⟩ (fun hHeld => ?_)
        clear hK K
        try simp only [Act.put, List.setIfInBounds_toArray, List.set_cons_zero, List.set_cons_succ]
        rw [show #[Value.int .i64 2, .int .i64 0, .int .i64 0, .int .i64 (od : Nat), .int .i64 0, .int .i64 0, .int .i64 0, .int .i64 0] = (stC (wipeS od)).toArray from rfl] at hHeld ⊢
        generalize (wr.alloc (.cells (stC (wipeS od)).toArray 60)).drew = w6 at *
        refine oneL 4 rfl (by kernel_rfl) rfl (fun K hK => ?_)
        refine wp_append_own w6 _ _ 57 rfl (w.heap.size + 1) 60 iS (.agg (stC zSt).toArray) 8 64 Try.underlying57 hiS hzS hsS hbS rfl (by omega) _ L.length (stsC L) rfl hS6.row ⟨wr.heap.size, 0, none⟩ 1 1 (stC (wipeS od)) rfl rfl (src_mid nw.cells) (one_stC _) (by simp [maxLen]; omega) (by omega) (by omega) ?_
        intro v' w7 ho7 hg7 _
        obtain ⟨P7, b7⟩ := hS6.push (by omega) ho7 hg7
        have hB7 := hB6.trans (b7.mono (by omega))
        refine hK.out _ _ ⟨⟨by rw [b7.cell (p := ⟨w.heap.size, 0, none⟩) (by show w.heap.size < _; omega)]; exact hHeld.1.1, by rw [b7.cell (p := ⟨fb, fo + od * 2 + 1, none⟩) (by show fb < _; omega)]; exact hHeld.1.2⟩, Nat.lt_of_lt_of_le hHeld.2 b7.size⟩ (fun hHeld => ?_)
        clear hK K
        try simp only [Act.put, List.setIfInBounds_toArray, List.set_cons_zero, List.set_cons_succ]
        refine takeL 13 (v') rfl (by kernel_rfl) (by kernel_rfl) (by kernel_rfl) (fun _ _ _ h => h) (Or.inl ⟨rfl, fun _ _ => rfl⟩) hHeld ?_
        try simp only [Act.put, List.setIfInBounds_toArray, List.set_cons_zero, List.set_cons_succ]
        refine takeL 14 (.int .i64 (od : Nat)) rfl (by kernel_rfl) (by kernel_rfl) (by kernel_rfl) (fun _ _ _ h => h) (Or.inl ⟨rfl, fun _ _ => rfl⟩) hHeld ?_
        try simp only [Act.put, List.setIfInBounds_toArray, List.set_cons_zero, List.set_cons_succ]
        refine takeL 15 (.bool (decide (b.wn < 200))) rfl (by kernel_rfl) (by kernel_rfl) (by kernel_rfl) (fun _ _ _ h => h) (Or.inl ⟨rfl, fun _ _ => rfl⟩) hHeld ?_
        try simp only [Act.put, List.setIfInBounds_toArray, List.set_cons_zero, List.set_cons_succ]
        refine wpAnyH_done (by kernel_rfl) ?_ _
        refine NoPanic.normal ?_
        go_wp2
        go_ret3
        exact ⟨v', by rw [unhide HO1, unhide HO2]; rfl, by rw [unhide HLT]; exact P7.mono (by omega), hB7⟩
      · have hnl : (n : Int) < 4 := by omega
        have hnb : n < b.ps.length := by omega
        have hn0 : (0 : Int) ≤ (n : Int) := by omega
        obtain ⟨m0, m1, m2, m3, m4⟩ := PsAt.cells (unhide HQR) n hnb
        rw [← hB.cell (p := ⟨pb, po + n * 5, none⟩) lp] at m0
        rw [← hB.cell (p := ⟨pb, po + n * 5 + 1, none⟩) lp] at m1
        rw [← hB.cell (p := ⟨pb, po + n * 5 + 2, none⟩) lp] at m2
        rw [← hB.cell (p := ⟨pb, po + n * 5 + 3, none⟩) lp] at m3
        rw [← hB.cell (p := ⟨pb, po + n * 5 + 4, none⟩) lp] at m4
        have HTK := hide (tellP_take bs b.ps n hnb)
        have hl4 : (tellP bs (b.ps.take n)).length ≤ 4 := by have := tellP_len bs (b.ps.take n); rw [List.length_take] at this; omega
        generalize b.ps[n] = p at *
        generalize tellP bs (b.ps.take n) = L at *
        have HP := hide (unhide HLV p)
        have bn : Below wr.heap.size wr (wr.alloc (.cells #[.int .i64 p.st, .int .i64 p.k, .int .i64 p.s, .int .i64 p.a, .int .i64 p.v] 33)) := (Below.refl _ _).alloc (Nat.le_refl _) _
        have hC2 := hC.below bn (by omega)
        have hS2 := hS.below bn (Nat.le_refl _)
        have hB2 := hB.trans (bn.mono hB.size)
        have cP : CsAt (wr.alloc (.cells #[.int .i64 p.st, .int .i64 p.k, .int .i64 p.s, .int .i64 p.a, .int .i64 p.v] 33)) wr.heap.size (pgC p) := CsAt.new wr (pgC p) 33
        have hsz2 : wr.heap.size + 1 = (wr.alloc (.cells #[.int .i64 p.st, .int .i64 p.k, .int .i64 p.s, .int .i64 p.a, .int .i64 p.v] 33)).heap.size := by simp
        have y02 := hC2.cell 0 _ rfl
        have e0 := cP.cell 0 _ rfl
        have e1 := cP.cell 1 _ rfl
        have e2 := cP.cell 2 _ rfl
        have e3 := cP.cell 3 _ rfl
        have e4 := cP.cell 4 _ rfl
        go_wp2_with fail
        generalize wr.alloc (.cells #[.int .i64 p.st, .int .i64 p.k, .int .i64 p.s, .int .i64 p.a, .int .i64 p.v] 33) = w4 at *
        generalize hbx : wr.heap.size = bx at *
        refine (unhide HP _ hB2).mono ?_
        rintro e w5 ⟨rfl, b5⟩
        have hC5 := hC2.below b5 (by omega)
        have hS5 := hS2.below b5 (Nat.le_refl _)
        have hB5 := hB2.trans (b5.mono hB2.size)
        have cP5 := cP.below b5 (by omega)
        have hsz5 : w.heap.size + 2 ≤ w5.heap.size := by have := b5.size; omega
        have hbx5 : bx < w5.heap.size := by have := b5.size; omega
        clear hC hS hB hC2 hS2 hB2 b5 cP e0 e1 e2 e3 e4 m0 m1 m2 m3 m4 y0 y02 z0 bn
        have e1 := cP5.cell 1 _ rfl
        have e3 := cP5.cell 3 _ rfl
        have e4 := cP5.cell 4 _ rfl
        generalize liveB bs p = lv at *
        cases lv
        · have HT : Hid (tellP bs (b.ps.take (n + 1)) = L) := by show _ = _; rw [unhide HTK]; simp
          go_wp2
          go_roundw
          case rel => exact ⟨n + 1, by omega, by first | rfl | go_num, by rw [unhide HT]; exact hS5, hC5, hsz5, hB5⟩
          case measure => simp [intOf]; omega
        · by_cases hk1 : p.k = 1
          · have g1 : (p.k == 1) = true := by simpa using hk1
            have HT : Hid (tellP bs (b.ps.take (n + 1)) = L ++ [diskS p.a p.v]) := by show _ = _; rw [unhide HTK, g1]; rfl
            have HNL : Hid (L.length + 1 ≤ 5) := by show _ ≤ _; omega
            clear hk1
            obtain ⟨iS, hiS, hzS, hsS, hbS⟩ := infoS
            have bm : Below w5.heap.size w5 (w5.alloc (.cells (stC (diskS p.a p.v)).toArray 60)) := (Below.refl _ _).alloc (Nat.le_refl _) _
            have hC6 := hC5.below bm (by omega)
            have hS6 := hS5.below bm (Nat.le_refl _)
            have hB6 := hB5.trans (bm.mono hB5.size)
            have nw := CsAt.new w5 (stC (diskS p.a p.v)) 60
            have hsz6 : w.heap.size + 2 ≤ (w5.alloc (.cells (stC (diskS p.a p.v)).toArray 60)).heap.size := by simp; omega
            have hR6 := hS6.row
            have hnw := src_mid nw.cells
            clear bm hS5 hB5 hC5
            rw [show (stC (diskS p.a p.v)).toArray = #[.int .i64 1, .int .i64 p.a, .int .i64 p.v, .int .i64 0, .int .i64 0, .int .i64 0, .int .i64 0, .int .i64 0] from rfl] at *
            go_wp2_with (refine wpList_append_own _ rfl _ _ 57 rfl (w.heap.size + 1) 60 iS (.agg (stC zSt).toArray) 8 64 Try.underlying57 hiS hzS hsS hbS rfl (by omega) _ L.length (stsC L) rfl hR6 ⟨w5.heap.size, 0, none⟩ 1 1 (stC (diskS p.a p.v)) rfl rfl hnw (one_stC _) (by have := unhide HNL; simp [maxLen]; omega) (by have := unhide HNL; omega) (by omega) ?_; intro v' w7 ho7 hg7 _)
            obtain ⟨P7, b7⟩ := hS6.push (by omega) ho7 hg7
            have hC7 := hC6.below b7 (by omega)
            have hB7 := hB6.trans (b7.mono (by omega))
            have hsz7 : w.heap.size + 2 ≤ w7.heap.size := by have := b7.size; omega
            rw [← unhide HT] at P7
            clear hS6 hC6 hB6 ho7 hg7 hR6 hnw nw b7
            go_wp2
            go_roundw
            case rel => exact ⟨n + 1, by omega, by first | rfl | go_num, P7, hC7, hsz7, hB7⟩
            case measure => simp [intOf]; omega
          · have g1 : (p.k == 1) = false := by simpa using hk1
            have HT : Hid (tellP bs (b.ps.take (n + 1)) = L) := by show _ = _; rw [unhide HTK, g1]; simp
            clear hk1
            go_wp2
            go_roundw
            case rel => exact ⟨n + 1, by omega, by first | rfl | go_num, by rw [unhide HT]; exact hS5, hC5, hsz5, hB5⟩
            case measure => simp [intOf]; omega
end Go.Proofs.Ytkikeapfjpnkgaa.RmA

/-
  The specification's steps by which a record is written.
-/
namespace Go.Proofs.Ytkikeapfjpnkgaa.WrA
open Go.ChangeShapes Go.WideShapes Go.ChangeAt Go.RowKit Go.Shelf OkA Big Fl ImplB ImplF ImplS _root_.Go.Proofs.Ytkikeapfjpnkgaa.Own ImplT ImplU SpecA SpecB SpecC SpecD SpecW SpecF SpecG SpecH Ok2 Pl FindP SpecX ImplL FindN FindL FindV Kp StA RmA
set_option linter.unusedVariables false
set_option linter.unusedSimpArgs false
attribute [local go_sem ↓] Go.wp_at_zero Go.wp_at_succ

def StpPost (w : World) (l : List Stp) (e : Ending) (w' : World) : Prop := ∃ v, e = .returned v ∧ Sts w' w.heap.size v l ∧ Below w.heap.size w w'
theorem roomL_len (bs : List Bk) (hF : Fours bs) (h4 : bs.length = 4) : (roomL bs).length ≤ 5 := by
  unfold roomL
  split
  · simp
  · have hob : oldB bs < bs.length := by unfold oldB; have := oldN_le bs 3; omega
    have := tellP_len bs (bs.getD (oldB bs) zBk).ps
    rw [getD_at bs _ hob, hF.at _ hob] at this
    rw [List.length_append, getD_at bs _ hob]
    simp
    omega

set_option maxRecDepth 100000 in
set_option maxHeartbeats 2000000 in
theorem write_steps (fb fo cap : Nat) (dv : Value) (kind addr val : Int) (bs : List Bk) (w : World) (hok : okB bs = true) (hf : ∀ i (hi : i < bs.length), BkAt w fb (fo + i * 2) bs[i]) :
    Calls Try.prog 73 #[.agg #[.slice (some ⟨fb, fo, none⟩) 4 cap, dv], .int .i64 kind, .int .i64 addr, .int .i64 val] w fun e w' => StpPost w (writeP bs kind addr val) e w' := by
  have h4 := ok_len hok
  have hF := ok_fours hok
  have hfs : FsAt w (some ⟨fb, fo, none⟩) bs := .inr ⟨fb, fo, rfl, hf⟩
  have hmb := mostB_le bs (ok_pages hok)
  have HW : Hid (wrap64 (mostB bs + 1) = mostB bs + 1) := by show _ = _; unfold wrap64; omega
  have HRM := hide (fun (w' : World) (hb : Below w.heap.size w w') => room_any fb fo cap dv bs w' hF h4 (fun i hi => (hf i hi).below hb))
  have HNX : Hid (∀ w', Below w.heap.size w w' → Calls Try.prog 75 #[.slice (some ⟨fb, fo, none⟩) 4 cap] w' fun e w'' => e = .returned (.int .i64 (mostB bs + 1)) ∧ Below w'.heap.size w' w'') := fun w' hb => by
    have := SpecF.next_any (some ⟨fb, fo, none⟩) cap bs w' (hfs.below hb) (by omega) (fun b hb => by rw [hF b hb]; omega)
    rw [h4, unhide HW] at this; exact this
  have HWP : Hid (writeP bs kind addr val = if roomO bs && recB kind (mostB bs + 1) addr val then roomL bs ++ [writeS (roomB bs) ⟨kind, mostB bs + 1, addr, val⟩] else []) := rfl
  have HRL := hide (roomL_len bs hF h4)
  have HSO := hide (fun (s : Int) (w' : World) => specOk_any kind s addr val w')
  have B0 : Below w.heap.size w (w.alloc (.cells #[.slice (some ⟨fb, fo, none⟩) 4 cap, dv] 54)) := (Below.refl _ _).alloc (Nat.le_refl _) _
  have cS := store_box w (.slice (some ⟨fb, fo, none⟩) 4 cap) dv
  have hs0 : w.heap.size + 1 = (w.alloc (.cells #[.slice (some ⟨fb, fo, none⟩) 4 cap, dv] 54)).heap.size := by simp
  clear hf hfs HW hok hmb
  generalize hmm : mostB bs + 1 = m at *
  clear hmm
  go_enter Try.func73, Try.ntmps73
  go_wp2_with fail
  generalize w.alloc (.cells #[.slice (some ⟨fb, fo, none⟩) 4 cap, dv] 54) = w1 at *
  refine (unhide HNX _ B0).mono ?_
  rintro e w2 ⟨rfl, b2⟩
  have B2 := B0.trans (b2.mono B0.size)
  have cS2 := cS.below b2 (by omega)
  have s2 : w.heap.size + 1 ≤ w2.heap.size := by have := b2.size; omega
  clear B0 b2 cS hs0
  have bn : Below w2.heap.size w2 (w2.alloc (.cells #[.int .i64 kind, .int .i64 m, .int .i64 addr, .int .i64 val] 25)) := (Below.refl _ _).alloc (Nat.le_refl _) _
  have cS3 := cS2.below bn (by omega)
  have B3 := B2.trans (bn.mono B2.size)
  have cR : CsAt (w2.alloc (.cells #[.int .i64 kind, .int .i64 m, .int .i64 addr, .int .i64 val] 25)) w2.heap.size [.int .i64 kind, .int .i64 m, .int .i64 addr, .int .i64 val] := CsAt.new w2 _ 25
  have s3 : w2.heap.size + 1 = (w2.alloc (.cells #[.int .i64 kind, .int .i64 m, .int .i64 addr, .int .i64 val] 25)).heap.size := by simp
  have x0 := cS3.cell 0 _ rfl
  have x1 := cS3.cell 1 _ rfl
  clear bn cS2 B2
  go_wp2_with fail
  generalize w2.alloc (.cells #[.int .i64 kind, .int .i64 m, .int .i64 addr, .int .i64 val] 25) = w3 at *
  generalize w2.heap.size = br at *
  refine (unhide HRM _ B3).mono ?_
  rintro e w4 ⟨v, rfl, hS, b4⟩
  have B4 := B3.trans (b4.mono B3.size)
  have cR4 := cR.below b4 (by omega)
  have s4 := b4.size
  have hS4 := hS.mono (show w.heap.size ≤ w3.heap.size by omega)
  clear b4 cR hS x0 x1 cS3 B3 HRM
  generalize roomL bs = L at *
  generalize roomB bs = rb at *
  have d0 := cR4.cell 0 _ rfl
  have d1 := cR4.cell 1 _ rfl
  have d2 := cR4.cell 2 _ rfl
  have d3 := cR4.cell 3 _ rfl
  have nl := Sts.nil w4 w.heap.size (by omega)
  have nB := B4.alloc B4.size (.cells #[] 60)
  cases hro : roomO bs
  · have HE : Hid (writeP bs kind addr val = []) := by show _ = _; rw [unhide HWP, hro]; rfl
    clear hro
    go_wp2
    go_ret
    exact ⟨_, rfl, by rw [unhide HE]; exact nl, nB⟩
  · cases hrb : recB kind m addr val
    · have HE : Hid (writeP bs kind addr val = []) := by show _ = _; rw [unhide HWP, hro, hrb]; rfl
      have HSO2 := hide (fun w' => unhide HSO m w')
      rw [hrb] at HSO2
      clear hro hrb nl nB
      go_wp2_with fail
      refine (unhide HSO2 _).mono ?_
      rintro e w5 ⟨rfl, b5⟩
      have B5 := B4.trans (b5.mono B4.size)
      have nl := Sts.nil w5 w.heap.size B5.size
      have nB := B5.alloc B5.size (.cells #[] 60)
      clear d0 d1 d2 d3
      go_wp2
      go_ret
      exact ⟨_, rfl, by rw [unhide HE]; exact nl, nB⟩
    · have HE : Hid (writeP bs kind addr val = L ++ [writeS rb ⟨kind, m, addr, val⟩]) := by show _ = _; rw [unhide HWP, hro, hrb]; rfl
      have HSO2 := hide (fun w' => unhide HSO m w')
      rw [hrb] at HSO2
      clear hro hrb nl nB
      go_wp2_with fail
      refine (unhide HSO2 _).mono ?_
      rintro e w5 ⟨rfl, b5⟩
      have B5 := B4.trans (b5.mono B4.size)
      have hS5 := hS4.below b5 (Nat.le_refl _)
      have cR5 := cR4.below b5 (by omega)
      clear d0 d1 d2 d3 b5 hS4 cR4 B4
      have d0 := cR5.cell 0 _ rfl
      have d1 := cR5.cell 1 _ rfl
      have d2 := cR5.cell 2 _ rfl
      have d3 := cR5.cell 3 _ rfl
      have bm : Below w5.heap.size w5 (w5.alloc (.cells (stC (writeS rb ⟨kind, m, addr, val⟩)).toArray 60)) := (Below.refl _ _).alloc (Nat.le_refl _) _
      have hS6 := hS5.below bm (Nat.le_refl _)
      have hB6 := B5.trans (bm.mono B5.size)
      have nw := CsAt.new w5 (stC (writeS rb ⟨kind, m, addr, val⟩)) 60
      have hlo : w.heap.size ≤ (w5.alloc (.cells (stC (writeS rb ⟨kind, m, addr, val⟩)).toArray 60)).heap.size := by have := B5.size; simp; omega
      have hR6 := hS6.row
      have hnw := src_mid nw.cells
      obtain ⟨iS, hiS, hzS, hsS, hbS⟩ := infoS
      clear bm hS5 B5
      rw [show (stC (writeS rb ⟨kind, m, addr, val⟩)).toArray = #[.int .i64 3, .int .i64 0, .int .i64 0, .int .i64 rb, .int .i64 kind, .int .i64 m, .int .i64 addr, .int .i64 val] from rfl] at *
      go_wp2_with (refine wpList_append_own _ rfl _ _ 57 rfl w.heap.size 60 iS (.agg (stC zSt).toArray) 8 64 Try.underlying57 hiS hzS hsS hbS rfl (by omega) _ L.length (stsC L) rfl hR6 ⟨w5.heap.size, 0, none⟩ 1 1 (stC (writeS rb ⟨kind, m, addr, val⟩)) rfl rfl hnw (one_stC _) (by have := unhide HRL; simp [maxLen]; omega) (by have := unhide HRL; omega) hlo ?_; intro v' w7 ho7 hg7 _)
      obtain ⟨P7, b7⟩ := hS6.push hlo ho7 hg7
      go_ret
      exact ⟨_, rfl, by rw [unhide HE]; exact P7, hB6.trans (b7.mono (Nat.le_refl _))⟩
end Go.Proofs.Ytkikeapfjpnkgaa.WrA
