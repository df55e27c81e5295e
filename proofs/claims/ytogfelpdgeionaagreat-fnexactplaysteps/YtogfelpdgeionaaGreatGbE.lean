/-
  Texts that belong together, one behind the other: LawS, LawT.
-/
import Derived.Test.YtogfelpdgeionaaGreatGbD
import Derived.Test.YtogfelpdgeionaaGreatGaK

/-
  The laws' helpers over stores: how much there is; the same in memory of its own; whether two are the same; marks. A law's argument that is a store, opened.
-/
namespace Go.Proofs.YtogfelpdgeionaaGreat.LawS
open Go.ChangeShapes Go.WideShapes Go.ChangeAt Go.RowKit Go.Shelf Go.Joins OkA Big Fl ImplB ImplF ImplS _root_.Go.Proofs.YtogfelpdgeionaaGreat.Own ImplT ImplU SpecA SpecB SpecC SpecD SpecW Ok2 Pl ImplL Kp StA StB StD StF StG LawsA LawsB LawsE LawV LawI OpenF MarkB
set_option linter.unusedVariables false
set_option linter.unusedSimpArgs false
attribute [local go_sem ↓] Go.wp_at_zero Go.wp_at_succ

/-- A store's lists are no longer than memory. -/
def FitS (z : List Bk) (dk : List Int) : Prop := Fit z ∧ (dk.length : Int) ≤ 9223372036854775807
def SsPost (w : World) (z : List Bk) (dk : List Int) (e : Ending) (w' : World) : Prop := ∃ r : Int, e = .returned (.int .i64 r) ∧ -1 ≤ r ∧ r ≤ 1048576 ∧ (0 ≤ r → z.length ≤ 1048576 ∧ (∀ b ∈ z, b.ps.length ≤ 1048576) ∧ dk.length ≤ 1048576) ∧ Below w.heap.size w w'

set_option maxHeartbeats 1000000 in
theorem szStore_any (fa : Option Addr) (fc : Nat) (z : List Bk) (da : Option Addr) (dc : Nat) (dk : List Int) (w : World) (h : SAt w fa z da dk) (fit : FitS z dk) :
    Calls Tryz.prog 50 #[.agg #[.slice fa z.length fc, .slice da dk.length dc], .int .i64 1048576] w fun e w' => SsPost w z dk e w' := by
  have B0 : Below w.heap.size w (w.alloc (.cells #[.slice fa z.length fc, .slice da dk.length dc] 56)) := (Below.refl _ _).alloc (Nat.le_refl _) _
  have cS := CsAt.new w [.slice fa z.length fc, .slice da dk.length dc] 56
  have s0 : w.heap.size < (w.alloc (.cells #[.slice fa z.length fc, .slice da dk.length dc] 56)).heap.size := by simp
  have HC := hide (szBlockS_any fa fc z _ (h.below B0).fs fit.1)
  have hd := fit.2
  clear h fit
  go_enter Tryz.func50, Tryz.ntmps50
  go_wp2_with fail
  refine (unhide HC).mono ?_
  rintro e w1 ⟨r, rfl, r0, r1, hr, b1⟩
  have B1 := B0.trans (b1.mono B0.size)
  have x1 := (cS.below b1 s0).cell 1 _ rfl
  clear cS B0 HC b1
  by_cases hneg : r < 0
  · clear hr
    go_wp2
    go_ret
    exact ⟨-1, rfl, by omega, by omega, (fun h => by omega), B1⟩
  have HR := hide (hr (by omega))
  clear hr
  have HI := hide (fun (w' : World) => szIntS_any da dk.length dc r w' (by omega) r1 hd)
  by_cases h2 : r - dk.length < 0
  · have hR : szR r dk.length = -1 := if_pos h2
    rw [hR] at HI
    clear hR
    go_wp2_with (go_at_call 125; refine (unhide HI _).mono ?_; rintro e w' ⟨rfl, rfl⟩)
    go_ret
    exact ⟨-1, rfl, by omega, by omega, (fun h => by omega), B1⟩
  · have hR : szR r dk.length = r - dk.length := if_neg h2
    rw [hR] at HI
    clear hR
    go_wp2_with (go_at_call 125; refine (unhide HI _).mono ?_; rintro e w' ⟨rfl, rfl⟩)
    go_ret
    exact ⟨r - dk.length, rfl, by omega, by omega, (fun h => ⟨(unhide HR).1, (unhide HR).2, by omega⟩), B1⟩

/-- A store in rows of its own. -/
structure OwnS (w : World) (lo g : Nat) (G : List Nat) (d : Nat) (z : List Bk) (dk : List Int) : Prop where
  own : Own.Own w lo g G z z.length
  ds : CsAt w d (isC dk)
  dlo : lo ≤ d
  dhi : d < w.heap.size
  dne : d ∉ g :: G
theorem OwnS.sat {w : World} {lo g d : Nat} {G : List Nat} {z : List Bk} {dk : List Int} (h : OwnS w lo g G d z dk) : SAt w (some ⟨g, 0, none⟩) z (some ⟨d, 0, none⟩) dk := ⟨h.own.fs, .inr ⟨d, 0, rfl, h.ds.cells⟩⟩
theorem OwnS.below {w w' : World} {lo g d : Nat} {G : List Nat} {z : List Bk} {dk : List Int} (h : OwnS w lo g G d z dk) {B : Nat} (hb : Below B w w') (hB : w.heap.size ≤ B) : OwnS w' lo g G d z dk :=
  ⟨h.own.below hb hB, h.ds.below hb (Nat.lt_of_lt_of_le h.dhi hB), h.dlo, Nat.lt_of_lt_of_le h.dhi hb.size, h.dne⟩
theorem OwnS.mono {w : World} {lo g d : Nat} {G : List Nat} {z : List Bk} {dk : List Int} (h : OwnS w lo g G d z dk) {lo' : Nat} (hl : lo' ≤ lo) : OwnS w lo' g G d z dk := ⟨h.own.mono hl, h.ds, Nat.le_trans hl h.dlo, h.dhi, h.dne⟩
def TsPost (w : World) (z : List Bk) (dk : List Int) (e : Ending) (w' : World) : Prop := ∃ g G d, e = .returned (.agg #[.slice (some ⟨g, 0, none⟩) z.length z.length, .slice (some ⟨d, 0, none⟩) dk.length dk.length]) ∧ OwnS w' w.heap.size g G d z dk ∧ Below w.heap.size w w'
theorem size_st (x y : Value) : (Tryz.prog.info? 26).map (·.size) = some [x, y].length := by show _ = some 2; kernel_rfl
theorem keptS {w w' : World} {lo g d : Nat} {G : List Nat} {z : List Bk} {dk : List Int} (h : OwnS w lo g G d z dk) {L : List Nat} (ho : Only L w w') (hs : w.heap.size ≤ w'.heap.size) (hL : ∀ x ∈ d :: g :: G, x ∉ L) : OwnS w' lo g G d z dk :=
  ⟨LawV.Own.only h.own ho (fun x hx => hL x (List.mem_cons_of_mem _ hx)), ⟨fun j v hv => by rw [ho.cell d _ (hL d (by simp))]; exact h.ds.cells j v hv, fun j hj => by rw [ho.cell d _ (hL d (by simp)), ho.frozen d _ (hL d (by simp))]; exact h.ds.free j hj⟩, h.dlo, Nat.lt_of_lt_of_le h.dhi hs, h.dne⟩

set_option maxHeartbeats 1000000 in
theorem toStore_any (fa : Option Addr) (fc : Nat) (z : List Bk) (da : Option Addr) (dc : Nat) (dk : List Int) (w : World) (h : SAt w fa z da dk) (hl : z.length ≤ 1048576) (hp : ∀ b ∈ z, b.ps.length ≤ 1048576) (hd : dk.length ≤ 1048576) :
    Calls Tryz.prog 52 #[.agg #[.slice fa z.length fc, .slice da dk.length dc]] w fun e w' => TsPost w z dk e w' := by
  have B0 : Below w.heap.size w (((w.alloc (.cells #[.slice fa z.length fc, .slice da dk.length dc] 56)).alloc (.cells #[.slice none 0 0, .slice none 0 0] 26)).alloc (.cells #[.slice none 0 0, .slice none 0 0] 26)) := (((Below.refl _ _).alloc (Nat.le_refl _) _).alloc (by simp) _).alloc (by simp; omega) _
  have cA := ((CsAt.new w [.slice fa z.length fc, .slice da dk.length dc] 56).alloc (by simp) (.cells #[.slice none 0 0, .slice none 0 0] 26)).alloc (by simp; omega) (.cells #[.slice none 0 0, .slice none 0 0] 26)
  have cR := (CsAt.new (w.alloc (.cells #[.slice fa z.length fc, .slice da dk.length dc] 56)) [.slice none 0 0, .slice none 0 0] 26).alloc (by simp) (.cells #[.slice none 0 0, .slice none 0 0] 26)
  have cO := CsAt.new ((w.alloc (.cells #[.slice fa z.length fc, .slice da dk.length dc] 56)).alloc (.cells #[.slice none 0 0, .slice none 0 0] 26)) [.slice none 0 0, .slice none 0 0] 26
  rw [World.size_alloc] at cR cO
  rw [World.size_alloc] at cO
  have s0 : (((w.alloc (.cells #[.slice fa z.length fc, .slice da dk.length dc] 56)).alloc (.cells #[.slice none 0 0, .slice none 0 0] 26)).alloc (.cells #[.slice none 0 0, .slice none 0 0] 26)).heap.size = w.heap.size + 3 := by simp
  have HA := hide h
  have HT := hide (toBlockS_any fa fc z _ (h.below B0).fs hl hp)
  have x0 := cA.cell 0 _ rfl
  clear h
  go_enter Tryz.func52, Tryz.ntmps52
  go_wp2_with fail
  generalize ((w.alloc (.cells #[.slice fa z.length fc, .slice da dk.length dc] 56)).alloc (.cells #[.slice none 0 0, .slice none 0 0] 26)).alloc (.cells #[.slice none 0 0, .slice none 0 0] 26) = w0 at *
  refine (unhide HT).mono ?_
  rintro e w1 ⟨g, G, rfl, o1, b1⟩
  have q1 := b1.size
  have cA1 := cA.below b1 (by omega)
  have cR1 := cR.below b1 (by omega)
  have cO1 := cO.below b1 (by omega)
  have B1 := B0.trans (b1.mono B0.size)
  have hg : ∀ x ∈ g :: G, w.heap.size + 3 ≤ x := fun x hx => by have := o1.lo x hx; omega
  clear cA cR cO B0 x0 HT b1
  have u0 := cO1.cell 0 _ rfl
  have f0 := cO1.frozen 0 (by simp)
  have e0 : w1.setCell ⟨w.heap.size + 1 + 1, 0, none⟩ (Value.slice (some ⟨g, 0, none⟩) z.length z.length) = w1.setCells (w.heap.size + 1 + 1) 0 [(Value.slice (some ⟨g, 0, none⟩) z.length z.length)] := rfl
  have kz := keptC w1 (w.heap.size + 1 + 1) 0 [(Value.slice (some ⟨g, 0, none⟩) z.length z.length)]
  have cA2 := cA1.other (show w.heap.size ≠ w.heap.size + 1 + 1 by omega) 0 [(Value.slice (some ⟨g, 0, none⟩) z.length z.length)]
  have cR2 := cR1.other (show w.heap.size + 1 ≠ w.heap.size + 1 + 1 by omega) 0 [(Value.slice (some ⟨g, 0, none⟩) z.length z.length)]
  have cO2 : CsAt (w1.setCells (w.heap.size + 1 + 1) 0 [(Value.slice (some ⟨g, 0, none⟩) z.length z.length)]) (w.heap.size + 1 + 1) [(Value.slice (some ⟨g, 0, none⟩) z.length z.length), .slice none 0 0] := by
    have := cO1.put [(Value.slice (some ⟨g, 0, none⟩) z.length z.length), .slice none 0 0] rfl
    refine ⟨fun j v hv => ?_, World.there_setCells cO1.free _ _ _⟩
    match j, hv with
    | 0, hv => (obtain rfl : v = (Value.slice (some ⟨g, 0, none⟩) z.length z.length) := by simpa using hv.symm); exact cell_setCells_eq (vs := [(Value.slice (some ⟨g, 0, none⟩) z.length z.length)]) (there_sub cO1.free 0 1 (by simp)) 0 (by simp)
    | 1, hv => (obtain rfl : v = .slice none 0 0 := by simpa using hv.symm); rw [cell_setCells_ne (.inr (by simp))]; exact cO1.cells 1 _ rfl
    | n + 2, hv => simp at hv
  have o2 := LawV.Own.only o1 (L := [w.heap.size + 1 + 1]) (show Only _ w1 (w1.setCells (w.heap.size + 1 + 1) 0 [(Value.slice (some ⟨g, 0, none⟩) z.length z.length)]) from (Only.refl _ _).setCells (by simp) 0 [(Value.slice (some ⟨g, 0, none⟩) z.length z.length)]) (fun x hx => by have := hg x hx; simp; omega)
  have B2 := below_setCells (w.heap.size + 1 + 1) (show w.heap.size ≤ w.heap.size + 1 + 1 by omega) [(Value.slice (some ⟨g, 0, none⟩) z.length z.length)] 0 _ B1
  have s2 : (w1.setCells (w.heap.size + 1 + 1) 0 [(Value.slice (some ⟨g, 0, none⟩) z.length z.length)]).heap.size ≥ w1.heap.size := by rw [size_setCells]; exact Nat.le_refl _
  have HI := hide (toIntS_any da dc dk _ ((unhide HA).below B2).ds hd)
  have x1 := cA2.cell 1 _ rfl
  clear cA1 cR1 cO1 o1 B1 kz
  go_wp2_with fail
  try rw [e0]
  clear e0 u0 f0
  generalize w1.setCells (w.heap.size + 1 + 1) 0 [(Value.slice (some ⟨g, 0, none⟩) z.length z.length)] = w2 at *
  refine (unhide HI).mono ?_
  rintro e w3 ⟨rfl, c3, s3, b3⟩
  have cR3 := cR2.below b3 (by omega)
  have cO3 := cO2.below b3 (by omega)
  have o3 := o2.below b3 (Nat.le_refl _)
  have B3 := B2.trans (b3.mono B2.size)
  have hdg : w2.heap.size ∉ g :: G := fun hm => by have := o2.hi _ hm; omega
  generalize hd' : w2.heap.size = d at *
  clear cR2 cO2 o2 B2 x1 HI b3 cA2
  have u1 := cO3.cell 1 _ rfl
  have u0 := cO3.cell 0 _ rfl
  have f1 := cO3.frozen 1 (by simp)
  have v0 := cR3.cell 0 _ rfl
  have v1 := cR3.cell 1 _ rfl
  have h0 := cR3.frozen 0 (by simp)
  have h1 := cR3.frozen 1 (by simp)
  have ne1 : ∀ x ∈ d :: g :: G, x ∉ [w.heap.size + 1, w.heap.size + 1 + 1] := fun x hx => by
    rcases List.mem_cons.1 hx with rfl | hx
    · simp; omega
    · have := hg x hx; simp; omega
  have S3 : OwnS w3 w.heap.size g G d z dk := ⟨o3.mono (by omega), c3, by omega, by omega, hdg⟩
  have oN : Only [w.heap.size + 1, w.heap.size + 1 + 1] w3 (((w3.setCells (w.heap.size + 1 + 1) 1 [(Value.slice (some ⟨d, 0, none⟩) dk.length dk.length)]).setCells (w.heap.size + 1) 0 [(Value.slice (some ⟨g, 0, none⟩) z.length z.length), (Value.slice (some ⟨d, 0, none⟩) dk.length dk.length)])) := ((Only.refl _ _).setCells (by simp) 1 [(Value.slice (some ⟨d, 0, none⟩) dk.length dk.length)]).setCells (by simp) 0 [(Value.slice (some ⟨g, 0, none⟩) z.length z.length), (Value.slice (some ⟨d, 0, none⟩) dk.length dk.length)]
  have SZ := keptS S3 oN (by rw [size_setCells, size_setCells]; omega) ne1
  have BZ := below_setCells (w.heap.size + 1) (show w.heap.size ≤ w.heap.size + 1 by omega) [(Value.slice (some ⟨g, 0, none⟩) z.length z.length), (Value.slice (some ⟨d, 0, none⟩) dk.length dk.length)] 0 _ (below_setCells (w.heap.size + 1 + 1) (show w.heap.size ≤ w.heap.size + 1 + 1 by omega) [(Value.slice (some ⟨d, 0, none⟩) dk.length dk.length)] 1 _ B3)
  have rZ := ((cR3.other (show w.heap.size + 1 ≠ w.heap.size + 1 + 1 by omega) 1 [(Value.slice (some ⟨d, 0, none⟩) dk.length dk.length)]).put [(Value.slice (some ⟨g, 0, none⟩) z.length z.length), (Value.slice (some ⟨d, 0, none⟩) dk.length dk.length)] rfl).cells
  clear cR3 cO3 o3 S3 oN c3 B3
  go_wp2
  refine bodyPost_ret (res_cell_mid Tryz.results52 _ _ (w.heap.size + 1) [(Value.slice (some ⟨g, 0, none⟩) z.length z.length), (Value.slice (some ⟨d, 0, none⟩) dk.length dk.length)] _ rfl rZ Tryz.underlying26 rfl (size_st (Value.slice (some ⟨g, 0, none⟩) z.length z.length) (Value.slice (some ⟨d, 0, none⟩) dk.length dk.length))) rfl ?_
  exact ⟨g, G, d, rfl, SZ, BZ⟩

set_option maxHeartbeats 1000000 in
theorem eqStore_any (f1 f2 d1 d2 : Option Addr) (c1 c2 e1 e2 : Nat) (z : List Bk) (dk : List Int) (w : World) (h1 : SAt w f1 z d1 dk) (h2 : SAt w f2 z d2 dk) (hl : z.length ≤ 1048576) (hp : ∀ b ∈ z, b.ps.length ≤ 1048576) (hd : dk.length ≤ 1048576) :
    Calls Tryz.prog 56 #[.agg #[.slice f1 z.length c1, .slice d1 dk.length e1], .agg #[.slice f2 z.length c2, .slice d2 dk.length e2]] w fun e w' => e = .returned (.bool true) ∧ Below w.heap.size w w' := by
  have B0 : Below w.heap.size w ((w.alloc (.cells #[.slice f1 z.length c1, .slice d1 dk.length e1] 26)).alloc (.cells #[.slice f2 z.length c2, .slice d2 dk.length e2] 26)) := ((Below.refl _ _).alloc (Nat.le_refl _) _).alloc (by simp) _
  have cA := (store_box w (.slice f1 z.length c1) (.slice d1 dk.length e1)).alloc (by simp) (.cells #[.slice f2 z.length c2, .slice d2 dk.length e2] 26)
  have cB := store_box (w.alloc (.cells #[.slice f1 z.length c1, .slice d1 dk.length e1] 26)) (.slice f2 z.length c2) (.slice d2 dk.length e2)
  rw [World.size_alloc] at cB
  have s0 : ((w.alloc (.cells #[.slice f1 z.length c1, .slice d1 dk.length e1] 26)).alloc (.cells #[.slice f2 z.length c2, .slice d2 dk.length e2] 26)).heap.size = w.heap.size + 2 := by simp
  have H1 := hide (h1.below B0)
  have H2 := hide (h2.below B0)
  have x0 := cA.cell 0 _ rfl
  have y0 := cB.cell 0 _ rfl
  clear h1 h2
  go_enter Tryz.func56, Tryz.ntmps56
  go_wp2_with fail
  generalize (w.alloc (.cells #[.slice f1 z.length c1, .slice d1 dk.length e1] 26)).alloc (.cells #[.slice f2 z.length c2, .slice d2 dk.length e2] 26) = w0 at *
  refine (eqBlockS_any f1 f2 c1 c2 z w0 (unhide H1).fs (unhide H2).fs hl hp).mono ?_
  rintro e w1 ⟨rfl, b1⟩
  have x1 := (cA.below b1 (by omega)).cell 1 _ rfl
  have y1 := (cB.below b1 (by omega)).cell 1 _ rfl
  have B1 := B0.trans (b1.mono B0.size)
  have H3 := hide ((unhide H1).below b1).ds
  have H4 := hide ((unhide H2).below b1).ds
  clear cA cB x0 y0 B0 b1
  go_wp2_with fail
  refine (eqIntS_any d1 d2 e1 e2 dk w1 (unhide H3) (unhide H4) hd).mono ?_
  rintro e w2 ⟨rfl, b2⟩
  have B2 := B1.trans (b2.mono B1.size)
  clear x1 y1 B1 b2
  go_wp2
  go_ret
  exact ⟨rfl, B2⟩

variable {H : Type} {enc : TypeId × Value → H} {w : World}
theorem open_intS {fuel : Nat} {V : Value} {x : DataW H × List MemPlace} (h : DataW.trod enc Tryz.prog w 0 (fun _ => true) true fuel 24 [V] = some x) :
    ∃ a l cap, V = .slice a (l : List Int).length cap ∧ DkAt w a l ∧ l.length ≤ 9223372036854775807 := by
  rcases open_ints Tryz.underlying24 Tryz.underlying3 (by kernel_rfl) h with ⟨hcs, _⟩ | ⟨a, len, c, zs, hcs, _, hl, hm, hz, _, hcell, hwz⟩
  · simp at hcs; subst hcs; exact ⟨none, [], 0, rfl, .inl rfl, by simp⟩
  · simp at hcs
    subst hcs
    simp only [if_true] at hz
    have hlen : (zs.take len).length = len := by rw [List.length_take]; omega
    refine ⟨some a, zs.take len, c, by rw [hlen], ?_, ?_⟩
    · by_cases h0 : len = 0
      · subst h0; exact .inl (by simp)
      · obtain ⟨b, o, s⟩ := a
        have c0 := hcell 0 (by omega)
        have hs : s = none := by
          have : w.cell? ⟨b, o, s⟩ = some (.int .i64 (zs.getD 0 0)) := by simpa [Addr.add] using c0
          exact spot_none this
        subst hs
        refine .inr ⟨b, o, rfl, fun j v hv => ?_⟩
        have hj : j < len := by have := (List.getElem?_eq_some_iff.1 hv).1; rw [len_isC, hlen] at this; exact this
        have := hcell j (by omega)
        rw [Addr.add_mid] at this
        rw [this]
        simp only [isC, List.getElem?_map, List.getElem?_take, if_pos hj] at hv
        rw [List.getD_eq_getElem?_getD]
        rw [List.getElem?_eq_getElem (show j < zs.length by omega)] at hv ⊢
        simpa using hv
    · rw [hlen]
      unfold maxLen at hm
      omega
theorem open_store {fuel : Nat} {cs : List Value} {x : DataW H × List MemPlace} (h : DataW.trod enc Tryz.prog w 0 (fun _ => true) true fuel 56 cs = some x) :
    ∃ fa fc z da dc dk, cs = [.slice fa (z : List Bk).length fc, .slice da (dk : List Int).length dc] ∧ SAt w fa z da dk ∧ FitS z dk := by
  obtain ⟨y0, y1, n, _, hl, h0, h1⟩ := trod_struct2 Tryz.underlying56 h
  rw [show Tryz.prog.cellsOf 56 = 2 by kernel_rfl] at hl
  obtain ⟨c0, c1, rfl⟩ := list2 hl
  rw [show Tryz.prog.cellsOf 24 = 1 by kernel_rfl] at h1
  rw [show Tryz.prog.cellsOf 54 = 1 by kernel_rfl] at h0
  obtain ⟨fa, z, fc, e0, hz, fit⟩ := open_flash h0
  obtain ⟨da, dk, dc, e1, hd, hle⟩ := open_intS h1
  subst e0 e1
  exact ⟨fa, fc, z, da, dc, dk, rfl, ⟨hz, hd⟩, fit, by omega⟩
end Go.Proofs.YtogfelpdgeionaaGreat.LawS

/-
  What a call has answered, a list of numbers: whether two are the same, marks, and what marks on a store leave as it was.
-/
namespace Go.Proofs.YtogfelpdgeionaaGreat.LawT
open Go.ChangeShapes Go.WideShapes Go.ChangeAt Go.RowKit Go.Shelf Go.Joins OkA Big Fl ImplB ImplF ImplS _root_.Go.Proofs.YtogfelpdgeionaaGreat.Own ImplT ImplU SpecA SpecB SpecC SpecD SpecW Ok2 Pl ImplL Kp StA StB StD StF StG LawsA LawsB LawsE LawV LawI LawS OpenF MarkB
set_option linter.unusedVariables false
set_option linter.unusedSimpArgs false
attribute [local go_sem ↓] Go.wp_at_zero Go.wp_at_succ

/-- All blocks that were there, but for those of L, read as they read. -/
structure OnlyG (L : List Nat) (w w' : World) : Prop where
  size : w.heap.size ≤ w'.heap.size
  cell : ∀ x p, x < w.heap.size → x ∉ L → w'.cell? ⟨x, p, none⟩ = w.cell? ⟨x, p, none⟩
  frozen : ∀ x p, x < w.heap.size → x ∉ L → w'.frozen? ⟨x, p, none⟩ = w.frozen? ⟨x, p, none⟩
variable {w w' w'' : World} {L : List Nat}
theorem OnlyG.of (h : Below w.heap.size w w') : OnlyG L w w' := ⟨h.size, fun x p hx _ => h.cell (p := ⟨x, p, none⟩) hx, fun x p hx _ => h.frozen (p := ⟨x, p, none⟩) hx⟩
theorem OnlyG.only (h : Only L w w') : OnlyG L w w' := ⟨by rw [h.size]; exact Nat.le_refl _, fun x p _ hx => h.cell x p hx, fun x p _ hx => h.frozen x p hx⟩
theorem OnlyG.kept (h : Kept L w w') : OnlyG L w w' := ⟨h.size, fun x p hx hn => h.cell p hx hn, fun x p hx hn => h.frozen p hx hn⟩
theorem OnlyG.trans (h : OnlyG L w w') (g : OnlyG L w' w'') : OnlyG L w w'' :=
  ⟨Nat.le_trans h.size g.size, fun x p hx hn => (g.cell x p (Nat.lt_of_lt_of_le hx h.size) hn).trans (h.cell x p hx hn), fun x p hx hn => (g.frozen x p (Nat.lt_of_lt_of_le hx h.size) hn).trans (h.frozen x p hx hn)⟩
theorem OnlyG.sub {M : List Nat} (h : OnlyG L w w') (hs : ∀ x ∈ L, x ∈ M ∨ w.heap.size ≤ x) : OnlyG M w w' :=
  ⟨h.size, fun x p hx hn => h.cell x p hx (fun hm => (hs x hm).elim hn (fun q => by omega)), fun x p hx hn => h.frozen x p hx (fun hm => (hs x hm).elim hn (fun q => by omega))⟩

/-- A list of numbers: empty, or a row of its own from lo to hi. -/
def InI (w : World) (lo hi : Nat) (v : Value) (l : List Int) : Prop := (l = [] ∧ ∃ a c, v = .slice a 0 c) ∨ ∃ g cap, v = .slice (some ⟨g, 0, none⟩) l.length cap ∧ lo ≤ g ∧ g < hi ∧ CsAt w g (isC l)
theorem InI.of {lo : Nat} {v : Value} {l : List Int} (h : NewIs w lo v l) : InI w lo w.heap.size v l := by
  rcases h with h | ⟨g, cap, e, h1, h2, h⟩
  · exact .inl h
  · exact .inr ⟨g, cap, e, h1, h2, h⟩
theorem InI.only {lo hi : Nat} {v : Value} {l : List Int} (h : InI w lo hi v l) (ho : OnlyG L w w') (hh : hi ≤ w.heap.size) (hL : ∀ x ∈ L, x < lo ∨ hi ≤ x) : InI w' lo hi v l := by
  rcases h with h | ⟨g, cap, e, h1, h2, h⟩
  · exact .inl h
  · have hg : g ∉ L := fun hm => by have := hL g hm; omega
    exact .inr ⟨g, cap, e, h1, h2, fun j u hu => by rw [ho.cell g _ (by omega) hg]; exact h.cells j u hu, fun j hj => by rw [ho.cell g _ (by omega) hg, ho.frozen g _ (by omega) hg]; exact h.free j hj⟩
theorem InI.below {lo hi : Nat} {v : Value} {l : List Int} (h : InI w lo hi v l) (hb : Below w.heap.size w w') (hh : hi ≤ w.heap.size) : InI w' lo hi v l := h.only (L := []) (OnlyG.of hb) hh (fun x hx => by simp at hx)
theorem InI.form {lo hi : Nat} {v : Value} {l : List Int} (h : InI w lo hi v l) : ∃ a cap, v = .slice a l.length cap ∧ DkAt w a l := by
  rcases h with ⟨rfl, a, c, rfl⟩ | ⟨g, cap, rfl, _, _, h⟩
  · exact ⟨a, c, rfl, .inl rfl⟩
  · exact ⟨_, cap, rfl, .inr ⟨g, 0, rfl, h.cells⟩⟩
theorem eqI {l1 h1 l2 h2 : Nat} {v1 v2 : Value} {l : List Int} (hl : l.length ≤ 6) (g1 : InI w l1 h1 v1 l) (g2 : InI w l2 h2 v2 l) :
    Calls Tryz.prog 76 #[v1, v2] w fun e w' => e = .returned (.bool true) ∧ Below w.heap.size w w' := by
  obtain ⟨a1, c1, rfl, d1⟩ := g1.form
  obtain ⟨a2, c2, rfl, d2⟩ := g2.form
  exact eqIntS_any a1 a2 c1 c2 l w d1 d2 (by omega)
theorem markI_nil (a : Option Addr) (cap : Nat) (w : World) : Calls Tryz.prog 79 #[.slice a 0 cap, .int .i64 1] w fun e w' => e = .returned (.int .i64 1) ∧ w' = w := by
  go_enter Tryz.func79, Tryz.ntmps79
  go_wp2
  go_loop [5, 1] (fun i m => i = .int .i64 0 ∧ m = .int .i64 1) (fun _ _ => 0)
  case atStart => exact ⟨rfl, rfl⟩
  case round =>
    obtain ⟨rfl, rfl⟩ := hrel
    go_wp2
    go_ret
    exact ⟨rfl, rfl⟩
def MvI (w : World) (lo hi : Nat) (v : Value) (n : Nat) (e : Ending) (w' : World) : Prop := e = .returned (.int .i64 (1 + (n : Nat))) ∧ InI w' lo hi v (mkI n 1) ∧ ∃ M : List Nat, OnlyG M w w' ∧ Below lo w w' ∧ ∀ x ∈ M, lo ≤ x ∧ x < hi
theorem markI {lo hi : Nat} {v : Value} {l : List Int} (hl : l.length ≤ 6) (hlo : lo ≤ w.heap.size) (h : InI w lo hi v l) :
    Calls Tryz.prog 79 #[v, .int .i64 1] w fun e w' => MvI w lo hi v l.length e w' := by
  rcases h with ⟨rfl, a, c, rfl⟩ | ⟨g, cap, rfl, h1, h2, h⟩
  · refine (markI_nil a c w).mono ?_
    rintro e w' ⟨rfl, rfl⟩
    exact ⟨rfl, .inl ⟨rfl, a, c, rfl⟩, [], OnlyG.of (Below.refl _ _), Below.refl _ _, fun x hx => by simp at hx⟩
  · refine (markIntS_any g cap l 1 w h (by omega) (by omega) (by omega)).mono ?_
    rintro e w' ⟨rfl, c, o, k⟩
    exact ⟨rfl, .inr ⟨g, cap, by rw [mkI_len], h1, h2, c⟩, [g], OnlyG.only o, k.below (fun x hx => by simp at hx; subst hx; exact h1) hlo, fun x hx => by simp at hx; subst hx; exact ⟨h1, h2⟩⟩
theorem heldI {lo hi : Nat} {v : Value} {n : Nat} (hn : n ≤ 6) (h : InI w lo hi v (mkI n 1)) :
    Calls Tryz.prog 80 #[v, .int .i64 1] w fun e w' => e = .returned (.int .i64 (1 + (n : Nat))) ∧ w' = w := by
  obtain ⟨a, c, rfl, f⟩ := h.form
  rw [mkI_len]
  exact heldIntS_any a c n 1 w (by omega) (by omega) (by omega) f

/-- Marks on a store of any shape. -/
def MsPost (w : World) (lo g : Nat) (G : List Nat) (d : Nat) (e : Ending) (w' : World) : Prop := ∃ m : Int, e = .returned (.int .i64 m) ∧ 0 ≤ m ∧ OnlyG (d :: g :: G) w w' ∧ Below lo w w'
set_option maxHeartbeats 1000000 in
theorem markS_any (lo g d c1 c2 : Nat) (G : List Nat) (z : List Bk) (dk : List Int) (w : World) (hlo : lo ≤ w.heap.size) (o : OwnS w lo g G d z dk) (hl : z.length ≤ 1048576) (hp : ∀ b ∈ z, b.ps.length ≤ 1048576) (hd : dk.length ≤ 1048576) :
    Calls Tryz.prog 57 #[.agg #[.slice (some ⟨g, 0, none⟩) z.length c1, .slice (some ⟨d, 0, none⟩) dk.length c2], .int .i64 1] w fun e w' => MsPost w lo g G d e w' := by
  have B0 : Below w.heap.size w (w.alloc (.cells #[.slice (some ⟨g, 0, none⟩) z.length c1, .slice (some ⟨d, 0, none⟩) dk.length c2] 26)) := (Below.refl _ _).alloc (Nat.le_refl _) _
  have cS := store_box w (.slice (some ⟨g, 0, none⟩) z.length c1) (.slice (some ⟨d, 0, none⟩) dk.length c2)
  have s0 : (w.alloc (.cells #[.slice (some ⟨g, 0, none⟩) z.length c1, .slice (some ⟨d, 0, none⟩) dk.length c2] 26)).heap.size = w.heap.size + 1 := by simp
  have o0 := o.below B0 (Nat.le_refl _)
  have hhi : ∀ x ∈ d :: g :: G, x < w.heap.size := fun x hx => by
    rcases List.mem_cons.1 hx with rfl | hx
    · exact o.dhi
    · exact o.own.hi x hx
  have x0 := cS.cell 0 _ rfl
  have hdn := o.dne
  have HP : Hid (Sized z) := hp
  clear o
  go_enter Tryz.func57, Tryz.ntmps57
  go_wp2_with fail
  generalize w.alloc (.cells #[.slice (some ⟨g, 0, none⟩) z.length c1, .slice (some ⟨d, 0, none⟩) dk.length c2] 26) = w0 at *
  refine (markL_any lo g c1 z.length G z w0 o0.own hl (unhide HP)).mono ?_
  rintro e w1 ⟨m, rfl, m0, m1, y1, b1⟩
  have g1 : OnlyG (d :: g :: G) w w1 := (OnlyG.of B0).trans ((OnlyG.only y1).sub (fun x hx => .inl (List.mem_cons_of_mem _ hx)))
  have z1 := y1.size
  have hSn : w.heap.size ∉ g :: G := fun hm => by have := hhi _ (List.mem_cons_of_mem _ hm); omega
  have x1 : w1.cell? ⟨w.heap.size, 1, none⟩ = some (.slice (some ⟨d, 0, none⟩) dk.length c2) := by rw [y1.cell _ _ hSn]; exact cS.cell 1 _ rfl
  have c1' : CsAt w1 d (isC dk) := ⟨fun j v hv => by rw [y1.cell d _ hdn]; exact o0.ds.cells j v hv, fun j hj => by rw [y1.cell d _ hdn, y1.frozen d _ hdn]; exact o0.ds.free j hj⟩
  have B1 := (B0.mono hlo).trans b1
  have hdl := o0.dlo
  have hdh := hhi d (by simp)
  clear cS x0 o0 y1 b1 B0
  go_wp2_with fail
  refine (markIntS_any d c2 dk m w1 c1' hd m0 m1).mono ?_
  rintro e w2 ⟨rfl, _, y2, k2⟩
  have g2 : OnlyG (d :: g :: G) w w2 := g1.trans ((OnlyG.only y2).sub (fun x hx => by simp at hx; subst hx; exact .inl (by simp)))
  have B2 := B1.trans (k2.below (B := lo) (fun x hx => by simp at hx; subst hx; exact hdl) (by omega))
  clear x1 y2 k2 g1 B1
  have hm : 0 ≤ m + (dk.length : Nat) := by omega
  go_wp2
  go_ret
  exact ⟨m + (dk.length : Nat), rfl, hm, g2, B2⟩
end Go.Proofs.YtogfelpdgeionaaGreat.LawT
