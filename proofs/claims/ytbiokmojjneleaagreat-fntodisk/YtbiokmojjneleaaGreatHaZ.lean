/-
  Texts that belong together, one behind the other: SpT, LawI, LawS, LawT.
-/
import Derived.Test.YtbiokmojjneleaaGreatHaX
import Derived.Test.YtbiokmojjneleaaGreatHaY
import Derived.Test.YtbiokmojjneleaaGreatRaH

/-
  The specification's StoreRead, StoreAll and StoreDirty; they are what the program answers.
-/
namespace Go.Proofs.YtbiokmojjneleaaGreat.SpT
open Go.ChangeShapes Go.WideShapes Go.ChangeAt Go.RowKit Go.Shelf OkA Big Fl ImplB ImplF ImplS _root_.Go.Proofs.YtbiokmojjneleaaGreat.Own ImplT ImplU SpecA SpecB SpecC SpecD SpecW SpecF SpecG SpecH Ok2 Pl FindP ImplO SpecX SpecO ImplQ ImplW ImplL FindN FindL FindV FindQ Kp Gd StA MpA StB StC StD StE StF StG SpS
set_option linter.unusedVariables false
set_option linter.unusedSimpArgs false
attribute [local go_sem ↓] Go.wp_at_zero Go.wp_at_succ

/-! Plain lists. -/
theorem noRc_eq {r : Rc} (h : noRc r = true) : r = zRc := by
  cases r; simp [noRc] at h; obtain ⟨⟨⟨rfl, rfl⟩, rfl⟩, rfl⟩ := h; rfl
theorem ord_ok {bs : List Bk} (h : ordR bs = true) : okB bs = true := by
  have : ordR bs = (okB bs && ordB bs) := rfl
  rw [this, Bool.and_eq_true] at h; exact h.1
theorem mp_get {bs : List Bk} {a : Int} (h : okB bs = true) (h1 : 1 ≤ a) (h6 : a ≤ 6) : (mpF bs a).getD zRc = lastR bs a ∧ (mpF bs a).isSome = lastO bs a := by
  have hl := lst_no (lastR_ok bs a h)
  unfold mpF mpK
  cases hn : noRc (lastR bs a)
  · rw [if_pos ⟨h1, by omega, rfl⟩]
    refine ⟨rfl, ?_⟩
    rw [hn] at hl
    unfold lastO; rw [← hl]; rfl
  · rw [if_neg (fun q => by cases q.2.2)]
    refine ⟨(noRc_eq hn).symm, ?_⟩
    rw [hn] at hl
    unfold lastO; rw [← hl]; rfl
theorem clean_last {bs : List Bk} {a : Int} (h : (lastR bs a).k = 2) (hok : okB bs = true) : lastO bs a = true := by
  rcases lastR_ok bs a hok with e | ⟨e, _⟩
  · rw [e] at h; simp [zRc] at h
  · unfold lastO
    simp [recB, numB, inB] at e
    simp; omega
theorem dkB_iff (dk : List Int) : dkB dk = true ↔ dk.length = 6 ∧ ∀ i, i < 6 → inB (dk.getD i 0) 0 9 = true := by
  unfold dkB
  rw [Bool.and_eq_true, beq_iff_eq, List.all_eq_true]
  constructor
  · rintro ⟨h1, h2⟩
    refine ⟨h1, fun i hi => ?_⟩
    rw [List.getD_eq_getElem?_getD, List.getElem?_eq_getElem (by omega)]
    exact h2 _ (List.getElem_mem _)
  · rintro ⟨h1, h2⟩
    refine ⟨h1, fun v hv => ?_⟩
    obtain ⟨j, hj, rfl⟩ := List.getElem_of_mem hv
    have := h2 j (by omega)
    rwa [List.getD_eq_getElem?_getD, List.getElem?_eq_getElem hj] at this
theorem st_eq (bs : List Bk) (dk : List Int) : stI bs dk = stB bs dk := by
  rw [Bool.eq_iff_iff]
  unfold stI stB
  rw [Bool.and_eq_true, Bool.and_eq_true, Bool.and_eq_true, Bool.and_eq_true, dkB_iff, beq_iff_eq]
  constructor
  · rintro ⟨⟨ho, h6, hd⟩, hc⟩
    have hok := ord_ok ho
    refine ⟨⟨ho, h6⟩, ?_⟩
    rw [List.all_eq_true]
    intro i hi
    simp at hi
    unfold hcB at hc
    rw [List.all_eq_true] at hc
    obtain ⟨g1, g2⟩ := mp_get (a := (i : Int) + 1) hok (by omega) (by omega)
    unfold badA
    rw [hd i hi]
    by_cases hk : (lastR bs ((i : Int) + 1)).k = 2
    · have := hc ((i : Int) + 1) (whK_mem.2 ⟨by omega, by rw [g1]; unfold kindC; simpa using hk⟩)
      rw [g1] at this
      unfold dkV at this
      rw [show ((i : Int) + 1 - 1).toNat = i by omega, beq_iff_eq] at this
      rw [this]; simp
    · simp [hk]
  · rintro ⟨⟨ho, h6⟩, hb⟩
    have hok := ord_ok ho
    rw [List.all_eq_true] at hb
    refine ⟨⟨ho, h6, fun i hi => ?_⟩, ?_⟩
    · have := hb i (by simpa using hi)
      unfold badA at this
      simp at this
      exact this.1
    · unfold hcB
      rw [List.all_eq_true]
      intro a ha
      obtain ⟨⟨h1, h2⟩, hk⟩ := whK_mem.1 ha
      obtain ⟨g1, g2⟩ := mp_get (a := a) hok (by omega) (by omega)
      rw [g1] at hk ⊢
      have hk2 : (lastR bs a).k = 2 := by unfold kindC at hk; simpa using hk
      have := hb (a - 1).toNat (by simp; omega)
      unfold badA at this
      rw [show (((a - 1).toNat : Nat) : Int) + 1 = a by omega, clean_last hk2 hok, hk2] at this
      simp at this
      unfold dkV
      rw [this.2]; simp
theorem st_parts {bs : List Bk} {dk : List Int} (h : stB bs dk = true) : okB bs = true ∧ dk.length = 6 := by
  unfold stB at h
  rw [Bool.and_eq_true, Bool.and_eq_true, beq_iff_eq] at h
  exact ⟨ord_ok h.1.1, h.1.2⟩
theorem mpV_eq {bs : List Bk} {dk : List Int} {a : Int} (hok : okB bs = true) (h1 : 1 ≤ a) (h6 : a ≤ 6) : mpV (mpF bs) dk a = readI bs dk a := by
  obtain ⟨g1, g2⟩ := mp_get (a := a) hok h1 h6
  unfold mpV readI dkV
  rw [g1, g2]
/-- What StoreRead answers. -/
def rdS (bs : List Bk) (dk : List Int) (addr : Int) : Int := if stB bs dk && inB addr 1 6 then readI bs dk addr else -1
theorem rd_eq (bs : List Bk) (dk : List Int) (addr : Int) : rdI bs dk addr = rdS bs dk addr := by
  unfold rdI rdS
  rw [st_eq]
  cases h : stB bs dk && inB addr 1 6
  · rfl
  · rw [Bool.and_eq_true] at h
    have ha : 1 ≤ addr ∧ addr ≤ 6 := by simpa [inB] using h.2
    simp only [if_true]
    exact mpV_eq (st_parts h.1).1 ha.1 ha.2
/-- The values of the first k addresses. -/
def alK (bs : List Bk) (dk : List Int) (k : Nat) : List Int := (List.range k).map fun i => readI bs dk ((i : Nat) + 1 : Int)
theorem alK_succ (bs : List Bk) (dk : List Int) (k : Nat) : alK bs dk (k + 1) = alK bs dk k ++ [readI bs dk ((k : Int) + 1)] := by unfold alK; rw [List.range_succ, List.map_append]; rfl
theorem alK_len (bs : List Bk) (dk : List Int) (k : Nat) : (alK bs dk k).length = k := by simp [alK]
def alS (bs : List Bk) (dk : List Int) : List Int := if stB bs dk then alK bs dk 6 else []
theorem al_eq (bs : List Bk) (dk : List Int) : alI bs dk = alS bs dk := by
  unfold alI alS
  rw [st_eq]
  cases h : stB bs dk
  · rfl
  · simp only [if_true]
    unfold alK
    apply List.map_congr_left
    intro i hi
    simp at hi
    exact mpV_eq (st_parts h).1 (by omega) (by omega)
/-- Of the first k addresses the dirty ones. -/
def dyK (bs : List Bk) (k : Nat) : List Int := ((List.range k).map fun i => ((i : Nat) : Int) + 1).filter fun i => dirtyB bs i
theorem dyK_succ (bs : List Bk) (k : Nat) : dyK bs (k + 1) = dyK bs k ++ (if dirtyB bs ((k : Int) + 1) then [(k : Int) + 1] else []) := by
  unfold dyK
  rw [List.range_succ, List.map_append, List.filter_append]
  congr 1
  simp only [List.map_cons, List.map_nil, List.filter_cons, List.filter_nil]
theorem dyK_len (bs : List Bk) (k : Nat) : (dyK bs k).length ≤ k := by
  unfold dyK
  exact Nat.le_trans (List.length_filter_le _ _) (by simp)
def dyS (bs : List Bk) (dk : List Int) : List Int := if stB bs dk then dyK bs 6 else []
theorem dy_eq (bs : List Bk) (dk : List Int) : dyI bs dk = dyS bs dk := by
  unfold dyI dyS
  rw [st_eq]
  cases h : stB bs dk
  · rfl
  · simp only [if_true]
    unfold dyK whK
    apply List.filter_congr
    intro a ha
    rw [List.mem_map] at ha
    obtain ⟨i, hi, rfl⟩ := ha
    simp at hi
    obtain ⟨g1, g2⟩ := mp_get (bs := bs) (a := (i : Int) + 1) (st_parts h).1 (by omega) (by omega)
    rw [g1]
    unfold kindD dirtyB
    cases ho : lastO bs ((i : Int) + 1)
    · rcases lastR_ok bs ((i : Int) + 1) (st_parts h).1 with e | ⟨e, _⟩
      · rw [e]; rfl
      · unfold lastO at ho
        simp [recB, numB, inB] at e
        simp at ho; omega
    · simp

/-! The specification's walks. -/
theorem here : True := trivial
end Go.Proofs.YtbiokmojjneleaaGreat.SpT

/-
  The laws' helpers over lists of numbers: how many; the same in memory of its own; whether two are the same; marks.
-/
namespace Go.Proofs.YtbiokmojjneleaaGreat.LawI
open Go.ChangeShapes Go.WideShapes Go.ChangeAt Go.RowKit Go.Shelf OkA Big Fl ImplB ImplF ImplS _root_.Go.Proofs.YtbiokmojjneleaaGreat.Own ImplT ImplU SpecA SpecB SpecC SpecD SpecW Ok2 Pl ImplL Kp StA StB StD StF StG LawsA LawsE LawV MarkB
set_option linter.unusedVariables false
set_option linter.unusedSimpArgs false
attribute [local go_sem ↓] Go.wp_at_zero Go.wp_at_succ

theorem made_n (n : Nat) : madeCells (Value.int .i64 0).cells (n * 1) = (isC (List.replicate n 0)).toArray := by
  apply Array.ext'
  rw [show (Value.int .i64 0).cells = #[Value.int .i64 0] from rfl, toList_madeCells_one, Nat.mul_one]
  simp [isC]
theorem dk_cell {w : World} {a : Option Addr} {l : List Int} (h : DkAt w a l) (k : Nat) (hk : k < l.length) : ∃ b o, a = some ⟨b, o, none⟩ ∧ w.cell? ⟨b, o + k, none⟩ = some (.int .i64 l[k]) ∧ b < w.heap.size := by
  rcases h with rfl | ⟨b, o, rfl, h⟩
  · simp at hk
  · have := isC_at h k hk
    rw [List.getD_eq_getElem?_getD, List.getElem?_eq_getElem hk] at this
    exact ⟨b, o, rfl, this, cell_lt this⟩
def TiPost (w : World) (l : List Int) (e : Ending) (w' : World) : Prop := e = .returned (.slice (some ⟨w.heap.size, 0, none⟩) l.length l.length) ∧ CsAt w' w.heap.size (isC l) ∧ w.heap.size < w'.heap.size ∧ Below w.heap.size w w'

/-! Marks. -/
def mkI (n : Nat) (k : Int) : List Int := (List.range n).map fun i => k + (i : Nat)
theorem mkI_len (n : Nat) (k : Int) : (mkI n k).length = n := by simp [mkI]
theorem mkI_at (n : Nat) (k : Int) (j : Nat) (hj : j < n) : (mkI n k)[j]? = some (k + (j : Nat)) := by simp [mkI, hj]
def MiPost (w : World) (g n : Nat) (k : Int) (e : Ending) (w' : World) : Prop := e = .returned (.int .i64 (k + (n : Nat))) ∧ CsAt w' g (isC (mkI n k)) ∧ Only [g] w w' ∧ Kept [g] w w'
theorem Only.setInt {L : List Nat} {w w' : World} (h : Only L w w') {b : Nat} (hb : b ∈ L) (o : Nat) (v : Value) : Only L w (w'.setCell ⟨b, o, none⟩ v) := h.setCells hb o [v]

theorem here : True := trivial
end Go.Proofs.YtbiokmojjneleaaGreat.LawI

/-
  The laws' helpers over stores: how much there is; the same in memory of its own; whether two are the same; marks. A law's argument that is a store, opened.
-/
namespace Go.Proofs.YtbiokmojjneleaaGreat.LawS
open Go.ChangeShapes Go.WideShapes Go.ChangeAt Go.RowKit Go.Shelf Go.Joins OkA Big Fl ImplB ImplF ImplS _root_.Go.Proofs.YtbiokmojjneleaaGreat.Own ImplT ImplU SpecA SpecB SpecC SpecD SpecW Ok2 Pl ImplL Kp StA StB StD StF StG LawsA LawsB LawsE LawV LawI OpenF MarkB
set_option linter.unusedVariables false
set_option linter.unusedSimpArgs false
attribute [local go_sem ↓] Go.wp_at_zero Go.wp_at_succ

/-- A store's lists are no longer than memory. -/
def FitS (z : List Bk) (dk : List Int) : Prop := Fit z ∧ (dk.length : Int) ≤ 9223372036854775807
def SsPost (w : World) (z : List Bk) (dk : List Int) (e : Ending) (w' : World) : Prop := ∃ r : Int, e = .returned (.int .i64 r) ∧ -1 ≤ r ∧ r ≤ 1048576 ∧ (0 ≤ r → z.length ≤ 1048576 ∧ (∀ b ∈ z, b.ps.length ≤ 1048576) ∧ dk.length ≤ 1048576) ∧ Below w.heap.size w w'

/-- A store in rows of its own. -/
structure OwnS (w : World) (lo g : Nat) (G : List Nat) (d : Nat) (z : List Bk) (dk : List Int) : Prop where
  own : Own.Own w lo g G z z.length
  ds : CsAt w d (isC dk)
  dlo : lo ≤ d
  dhi : d < w.heap.size
  dne : d ∉ g :: G
theorem OwnS.sat {w : World} {lo g d : Nat} {G : List Nat} {z : List Bk} {dk : List Int} (h : OwnS w lo g G d z dk) : SAt w (some ⟨g, 0, none⟩) z (some ⟨d, 0, none⟩) dk := ⟨h.own.fs, .inr ⟨d, 0, rfl, h.ds.cells⟩⟩
theorem OwnS.below {w w' : World} {lo g d : Nat} {G : List Nat} {z : List Bk} {dk : List Int} (h : OwnS w lo g G d z dk) {B : Nat} (hb : Below B w w') (hB : w.heap.size ≤ B) : OwnS w' lo g G d z dk :=
  ⟨h.own.below hb hB, h.ds.below hb (Nat.lt_of_lt_of_le h.dhi hB), h.dlo, Nat.lt_of_lt_of_le h.dhi hb.size, h.dne⟩
theorem OwnS.mono {w : World} {lo g d : Nat} {G : List Nat} {z : List Bk} {dk : List Int} (h : OwnS w lo g G d z dk) {lo' : Nat} (hl : lo' ≤ lo) : OwnS w lo' g G d z dk := ⟨h.own.mono hl, h.ds, Nat.le_trans hl h.dlo, h.dhi, h.dne⟩
def TsPost (w : World) (z : List Bk) (dk : List Int) (e : Ending) (w' : World) : Prop := ∃ g G d, e = .returned (.agg #[.slice (some ⟨g, 0, none⟩) z.length z.length, .slice (some ⟨d, 0, none⟩) dk.length dk.length]) ∧ OwnS w' w.heap.size g G d z dk ∧ Below w.heap.size w w'
theorem size_st (x y : Value) : (Tryz.prog.info? 26).map (·.size) = some [x, y].length := by show _ = some 2; kernel_rfl
theorem keptS {w w' : World} {lo g d : Nat} {G : List Nat} {z : List Bk} {dk : List Int} (h : OwnS w lo g G d z dk) {L : List Nat} (ho : Only L w w') (hs : w.heap.size ≤ w'.heap.size) (hL : ∀ x ∈ d :: g :: G, x ∉ L) : OwnS w' lo g G d z dk :=
  ⟨LawV.Own.only h.own ho (fun x hx => hL x (List.mem_cons_of_mem _ hx)), ⟨fun j v hv => by rw [ho.cell d _ (hL d (by simp))]; exact h.ds.cells j v hv, fun j hj => by rw [ho.cell d _ (hL d (by simp)), ho.frozen d _ (hL d (by simp))]; exact h.ds.free j hj⟩, h.dlo, Nat.lt_of_lt_of_le h.dhi hs, h.dne⟩

variable {H : Type} {enc : TypeId × Value → H} {w : World}
theorem open_intS {fuel : Nat} {V : Value} {x : DataW H × List MemPlace} (h : DataW.trod enc Tryz.prog w 0 (fun _ => true) true fuel 24 [V] = some x) :
    ∃ a l cap, V = .slice a (l : List Int).length cap ∧ DkAt w a l ∧ l.length ≤ 9223372036854775807 := by
  rcases open_ints Tryz.underlying24 Tryz.underlying3 (by kernel_rfl) h with ⟨hcs, _⟩ | ⟨a, len, c, zs, hcs, _, hl, hm, hz, _, hcell, hwz⟩
  · simp at hcs; subst hcs; exact ⟨none, [], 0, rfl, .inl rfl, by simp⟩
  · simp at hcs
    subst hcs
    simp only [if_true] at hz
    have hlen : (zs.take len).length = len := by rw [List.length_take]; omega
    refine ⟨some a, zs.take len, c, by rw [hlen], ?_, ?_⟩
    · by_cases h0 : len = 0
      · subst h0; exact .inl (by simp)
      · obtain ⟨b, o, s⟩ := a
        have c0 := hcell 0 (by omega)
        have hs : s = none := by
          have : w.cell? ⟨b, o, s⟩ = some (.int .i64 (zs.getD 0 0)) := by simpa [Addr.add] using c0
          exact spot_none this
        subst hs
        refine .inr ⟨b, o, rfl, fun j v hv => ?_⟩
        have hj : j < len := by have := (List.getElem?_eq_some_iff.1 hv).1; rw [len_isC, hlen] at this; exact this
        have := hcell j (by omega)
        rw [Addr.add_mid] at this
        rw [this]
        simp only [isC, List.getElem?_map, List.getElem?_take, if_pos hj] at hv
        rw [List.getD_eq_getElem?_getD]
        rw [List.getElem?_eq_getElem (show j < zs.length by omega)] at hv ⊢
        simpa using hv
    · rw [hlen]
      unfold maxLen at hm
      omega
theorem here : True := trivial
end Go.Proofs.YtbiokmojjneleaaGreat.LawS

/-
  What a call has answered, a list of numbers: whether two are the same, marks, and what marks on a store leave as it was.
-/
namespace Go.Proofs.YtbiokmojjneleaaGreat.LawT
open Go.ChangeShapes Go.WideShapes Go.ChangeAt Go.RowKit Go.Shelf Go.Joins OkA Big Fl ImplB ImplF ImplS _root_.Go.Proofs.YtbiokmojjneleaaGreat.Own ImplT ImplU SpecA SpecB SpecC SpecD SpecW Ok2 Pl ImplL Kp StA StB StD StF StG LawsA LawsB LawsE LawV LawI LawS OpenF MarkB
set_option linter.unusedVariables false
set_option linter.unusedSimpArgs false
attribute [local go_sem ↓] Go.wp_at_zero Go.wp_at_succ

/-- All blocks that were there, but for those of L, read as they read. -/
structure OnlyG (L : List Nat) (w w' : World) : Prop where
  size : w.heap.size ≤ w'.heap.size
  cell : ∀ x p, x < w.heap.size → x ∉ L → w'.cell? ⟨x, p, none⟩ = w.cell? ⟨x, p, none⟩
  frozen : ∀ x p, x < w.heap.size → x ∉ L → w'.frozen? ⟨x, p, none⟩ = w.frozen? ⟨x, p, none⟩
variable {w w' w'' : World} {L : List Nat}
theorem OnlyG.of (h : Below w.heap.size w w') : OnlyG L w w' := ⟨h.size, fun x p hx _ => h.cell (p := ⟨x, p, none⟩) hx, fun x p hx _ => h.frozen (p := ⟨x, p, none⟩) hx⟩
theorem OnlyG.only (h : Only L w w') : OnlyG L w w' := ⟨by rw [h.size]; exact Nat.le_refl _, fun x p _ hx => h.cell x p hx, fun x p _ hx => h.frozen x p hx⟩
theorem OnlyG.kept (h : Kept L w w') : OnlyG L w w' := ⟨h.size, fun x p hx hn => h.cell p hx hn, fun x p hx hn => h.frozen p hx hn⟩
theorem OnlyG.trans (h : OnlyG L w w') (g : OnlyG L w' w'') : OnlyG L w w'' :=
  ⟨Nat.le_trans h.size g.size, fun x p hx hn => (g.cell x p (Nat.lt_of_lt_of_le hx h.size) hn).trans (h.cell x p hx hn), fun x p hx hn => (g.frozen x p (Nat.lt_of_lt_of_le hx h.size) hn).trans (h.frozen x p hx hn)⟩
theorem OnlyG.sub {M : List Nat} (h : OnlyG L w w') (hs : ∀ x ∈ L, x ∈ M ∨ w.heap.size ≤ x) : OnlyG M w w' :=
  ⟨h.size, fun x p hx hn => h.cell x p hx (fun hm => (hs x hm).elim hn (fun q => by omega)), fun x p hx hn => h.frozen x p hx (fun hm => (hs x hm).elim hn (fun q => by omega))⟩

/-- A list of numbers: empty, or a row of its own from lo to hi. -/
def InI (w : World) (lo hi : Nat) (v : Value) (l : List Int) : Prop := (l = [] ∧ ∃ a c, v = .slice a 0 c) ∨ ∃ g cap, v = .slice (some ⟨g, 0, none⟩) l.length cap ∧ lo ≤ g ∧ g < hi ∧ CsAt w g (isC l)
theorem InI.of {lo : Nat} {v : Value} {l : List Int} (h : NewIs w lo v l) : InI w lo w.heap.size v l := by
  rcases h with h | ⟨g, cap, e, h1, h2, h⟩
  · exact .inl h
  · exact .inr ⟨g, cap, e, h1, h2, h⟩
theorem InI.only {lo hi : Nat} {v : Value} {l : List Int} (h : InI w lo hi v l) (ho : OnlyG L w w') (hh : hi ≤ w.heap.size) (hL : ∀ x ∈ L, x < lo ∨ hi ≤ x) : InI w' lo hi v l := by
  rcases h with h | ⟨g, cap, e, h1, h2, h⟩
  · exact .inl h
  · have hg : g ∉ L := fun hm => by have := hL g hm; omega
    exact .inr ⟨g, cap, e, h1, h2, fun j u hu => by rw [ho.cell g _ (by omega) hg]; exact h.cells j u hu, fun j hj => by rw [ho.cell g _ (by omega) hg, ho.frozen g _ (by omega) hg]; exact h.free j hj⟩
theorem InI.below {lo hi : Nat} {v : Value} {l : List Int} (h : InI w lo hi v l) (hb : Below w.heap.size w w') (hh : hi ≤ w.heap.size) : InI w' lo hi v l := h.only (L := []) (OnlyG.of hb) hh (fun x hx => by simp at hx)
theorem InI.form {lo hi : Nat} {v : Value} {l : List Int} (h : InI w lo hi v l) : ∃ a cap, v = .slice a l.length cap ∧ DkAt w a l := by
  rcases h with ⟨rfl, a, c, rfl⟩ | ⟨g, cap, rfl, _, _, h⟩
  · exact ⟨a, c, rfl, .inl rfl⟩
  · exact ⟨_, cap, rfl, .inr ⟨g, 0, rfl, h.cells⟩⟩
def MvI (w : World) (lo hi : Nat) (v : Value) (n : Nat) (e : Ending) (w' : World) : Prop := e = .returned (.int .i64 (1 + (n : Nat))) ∧ InI w' lo hi v (mkI n 1) ∧ ∃ M : List Nat, OnlyG M w w' ∧ Below lo w w' ∧ ∀ x ∈ M, lo ≤ x ∧ x < hi
/-- Marks on a store of any shape. -/
def MsPost (w : World) (lo g : Nat) (G : List Nat) (d : Nat) (e : Ending) (w' : World) : Prop := ∃ m : Int, e = .returned (.int .i64 m) ∧ 0 ≤ m ∧ OnlyG (d :: g :: G) w w' ∧ Below lo w w'
theorem here : True := trivial
end Go.Proofs.YtbiokmojjneleaaGreat.LawT
