/-
  Texts that belong together, one behind the other: Px, Py, Pz, Pu.
-/
import Derived.Test.YtogfelpdgeionaaGreatHbQ
import Derived.Test.YtogfelpdgeionaaGreatHbS
import Derived.Test.YtogfelpdgeionaaGreatHbR

/-
  What the laws of stores ask besides: lists that are answered, a new store, boxes.
-/
namespace Go.Proofs.YtogfelpdgeionaaGreat.Px
open Go.ChangeShapes Go.WideShapes Go.ChangeAt Go.RowKit Go.Shelf OkA Big Fl ImplB ImplF ImplS ImplT ImplU SpecA SpecB SpecC SpecD SpecW SpecF SpecG SpecH FindP ImplL FindN FindL Pl Kp StA StB StC StD StE StF StG SpS SpT Sv NwA LqI
set_option linter.unusedVariables false
set_option linter.unusedSimpArgs false

theorem rng2 {w : World} {s : Nat} {x y : Value} (h : Bx w s x y) : w.rangeAt s 0 [x, y] := fun j v hv => by
  rw [Nat.zero_add]
  match j, hv with
  | 0, hv => simp at hv; subst hv; exact h.c0
  | 1, hv => simp at hv; subst hv; exact h.c1
/-- A list that is answered. -/
def LsPost (w : World) (l : List Int) (e : Ending) (w' : World) : Prop := ∃ a cap, e = .returned (.slice a l.length cap) ∧ DkAt w' a l ∧ Below w.heap.size w w'
theorem isForm {w : World} {l : List Int} {e : Ending} {w' : World} (h : IsPost w l e w') : LsPost w l e w' := by
  obtain ⟨v, rfl, hv, b⟩ := h
  obtain ⟨a, cap, rfl, hd⟩ := hv.form
  exact ⟨a, cap, rfl, hd, b⟩
variable {fa da : Option Addr} {fc dc : Nat} {bs : List Bk} {dk : List Int}
theorem iAll2 (w : World) (h : SAt w fa bs da dk) (h4 : bs.length ≤ 4) (h6 : dk.length ≤ 6) :
    Calls Tryz.prog 29 #[.agg #[.slice fa bs.length fc, .slice da dk.length dc]] w fun e w' => LsPost w (alS bs dk) e w' := (iAll w h h4 h6).mono fun _ _ q => isForm q
theorem sAll2 (w : World) (h : SAt w fa bs da dk) (h4 : bs.length ≤ 4) (h6 : dk.length ≤ 6) (hp : ∀ b ∈ bs, b.ps.length ≤ 4) :
    Calls Tryz.prog 146 #[.agg #[.slice fa bs.length fc, .slice da dk.length dc]] w fun e w' => LsPost w (alS bs dk) e w' := (sAll w h h4 h6 hp).mono fun _ _ q => isForm q
theorem iDirty2 (w : World) (h : SAt w fa bs da dk) (h4 : bs.length ≤ 4) (h6 : dk.length ≤ 6) :
    Calls Tryz.prog 36 #[.agg #[.slice fa bs.length fc, .slice da dk.length dc]] w fun e w' => LsPost w (dyS bs dk) e w' := (iDirty w h h4 h6).mono fun _ _ q => isForm q
theorem sDirty2 (w : World) (h : SAt w fa bs da dk) (h4 : bs.length ≤ 4) (h6 : dk.length ≤ 6) (hp : ∀ b ∈ bs, b.ps.length ≤ 4) :
    Calls Tryz.prog 46 #[.agg #[.slice fa bs.length fc, .slice da dk.length dc]] w fun e w' => LsPost w (dyS bs dk) e w' := (sDirty w h h4 h6 hp).mono fun _ _ q => isForm q
theorem al_le : (alS bs dk).length ≤ 6 := by
  cases h : stB bs dk
  · rw [al_not h]; simp
  · rw [al_len h]; exact Nat.le_refl _
theorem al_new : alS zFs zDk = zDk := by decide
theorem dy_new : dyS zFs zDk = [] := by decide
theorem iAllN (a b : Option Addr) (c1 c2 : Nat) (w : World) (h : SAt w a zFs b zDk) :
    Calls Tryz.prog 29 #[.agg #[.slice a 4 c1, .slice b 6 c2]] w fun e w' => ∃ p q, e = .returned (.slice p 6 q) ∧ DkAt w' p zDk ∧ Below w.heap.size w w' := by
  have := iAll2 (fc := c1) (dc := c2) w h (by decide) (by decide)
  rw [al_new] at this
  exact this
/-- Of two lists that are the same. -/
theorem lqSame (a1 a2 : Option Addr) (c1 c2 : Nat) (xs : List Int) (w : World) (h1 : DkAt w a1 xs) (h2 : DkAt w a2 xs) (hl : xs.length ≤ 6) :
    Calls Tryz.prog 31 #[.slice a1 xs.length c1, .slice a2 xs.length c2] w fun e w' => e = .returned (.bool true) ∧ Below w.heap.size w w' := by
  have := lqInts_any a1 a2 c1 c2 xs xs w h1 h2 (by omega) (by omega)
  rwa [same_self] at this
end Go.Proofs.YtogfelpdgeionaaGreat.Px

/-
  Plain facts of stores: one without any record; one whose slow disk is changed; one on which something is written.
-/
namespace Go.Proofs.YtogfelpdgeionaaGreat.Py
open Go.ChangeShapes Go.WideShapes Go.ChangeAt Go.RowKit Go.Shelf OkA Big Fl ImplB ImplF ImplS ImplT ImplU SpecA SpecB SpecC SpecD SpecW SpecF SpecG SpecH FindP ImplL FindN FindL Pl Kp StA StB StC StD StE StF StG SpS SpT Sv NwA PlB SpecO ImplQ FindQ
set_option linter.unusedVariables false
set_option linter.unusedSimpArgs false
variable {bs : List Bk} {dk : List Int}
theorem last_new (a : Int) : lastR zFs a = zRc := by rfl
theorem lastO_new (a : Int) : lastO zFs a = false := by unfold lastO; rw [last_new]; rfl
theorem ord_new : ordR zFs = true := by decide
theorem st_iff : stB bs dk = true ↔ ordR bs = true ∧ dk.length = 6 ∧ ∀ i, i < 6 → badA bs dk i = false := by
  unfold stB
  rw [Bool.and_eq_true, Bool.and_eq_true, beq_iff_eq, List.all_eq_true, and_assoc]
  refine and_congr Iff.rfl (and_congr Iff.rfl ⟨fun h i hi => ?_, fun h i hi => ?_⟩)
  · have := h i (by simpa using hi); simpa using this
  · have := h i (by simpa using hi); simpa using this
theorem bad_iff {i : Nat} : badA bs dk i = false ↔ (0 ≤ dk.getD i 0 ∧ dk.getD i 0 ≤ 9) ∧ ¬ (lastO bs ((i : Int) + 1) = true ∧ (lastR bs ((i : Int) + 1)).k = 2 ∧ (lastR bs ((i : Int) + 1)).v ≠ dk.getD i 0) := by
  unfold badA
  rw [Bool.or_eq_false_iff]
  refine and_congr ?_ ?_
  · simp [inB]
  · rw [Bool.and_eq_false_iff, Bool.and_eq_false_iff]
    constructor
    · rintro h ⟨h1, h2, h3⟩
      rcases h with (h | h) | h
      · rw [h1] at h; cases h
      · simp [h2] at h
      · simp at h; exact h3 h
    · intro h
      cases e1 : lastO bs ((i : Int) + 1)
      · exact .inl (.inl rfl)
      · by_cases e2 : (lastR bs ((i : Int) + 1)).k = 2
        · right
          have : (lastR bs ((i : Int) + 1)).v = dk.getD i 0 := Classical.byContradiction fun q => h ⟨e1, e2, q⟩
          simpa using this
        · exact .inl (.inr (by simpa using e2))
theorem st_wiped (h : stB bs dk = true) : stB zFs dk = true := by
  obtain ⟨_, h6, hb⟩ := st_iff.1 h
  refine st_iff.2 ⟨ord_new, h6, fun i hi => bad_iff.2 ⟨(bad_iff.1 (hb i hi)).1, fun q => ?_⟩⟩
  rw [lastO_new] at q; cases q.1
theorem al_wiped (h : stB bs dk = true) : alS zFs dk = dk := by
  have h6 := (st_iff.1 h).2.1
  unfold alS
  rw [if_pos (st_wiped h)]
  have e : alK zFs dk 6 = (List.range 6).map fun i => dk.getD i 0 := List.map_congr_left fun i _ => by
    unfold readI
    rw [lastO_new, if_neg (by simp), show ((i : Int) + 1 - 1).toNat = i by omega]
  rw [e]
  match dk, h6 with
  | [_, _, _, _, _, _], _ => rfl
theorem dy_wiped : dyS zFs dk = [] := by
  unfold dyS
  split
  · rfl
  · rfl
/-- How many of the first k addresses are dirty. -/
def dyN (bs : List Bk) (k : Nat) : Nat := (dyK bs k).length
theorem dyN_succ (k : Nat) : dyN bs (k + 1) = dyN bs k + if dirtyB bs ((k : Int) + 1) then 1 else 0 := by
  unfold dyN
  rw [dyK_succ, List.length_append]
  split <;> rfl
theorem dyK_pre (bs : List Bk) : ∀ n k, ∃ t, dyK bs (k + n) = dyK bs k ++ t
  | 0, k => ⟨[], by simp⟩
  | n + 1, k => by
    obtain ⟨t, ht⟩ := dyK_pre bs n k
    exact ⟨_, by rw [← Nat.add_assoc, dyK_succ, ht, List.append_assoc]⟩
theorem dy_ok (h : stB bs dk = true) : dyS bs dk = dyK bs 6 := by unfold dyS; rw [if_pos h]
theorem dy_at (h : stB bs dk = true) (j : Nat) (hj : j < 6) (hd : dirtyB bs ((j : Int) + 1) = true) : dyN bs j < (dyS bs dk).length ∧ (dyS bs dk).getD (dyN bs j) 0 = (j : Int) + 1 := by
  obtain ⟨t, ht⟩ := dyK_pre bs (5 - j) (j + 1)
  have e := dyK_succ bs j
  rw [if_pos hd] at e
  rw [show j + 1 + (5 - j) = 6 by omega, e] at ht
  rw [dy_ok h, ht]
  unfold dyN
  refine ⟨by simp, ?_⟩
  rw [List.getD_eq_getElem?_getD, List.append_assoc, List.getElem?_append_right (Nat.le_refl _)]
  simp
theorem dirty_fl {k : Int} (h : stB bs dk = true) (h1 : 1 ≤ k) (h6 : k ≤ 6) : dirtyB bs k = (flO bs k && (flR bs k).k == 1) := by
  have hok := (st_parts h).1
  have hin : inB k 1 6 = true := by simp [inB]; omega
  unfold flO flR dirtyB
  rw [hok, hin]
  simp
theorem clean_rd (h : stB bs dk = true) (j : Nat) (hj : j < 6) (hd : dirtyB bs ((j : Int) + 1) = false) : rdS bs dk ((j : Int) + 1) = dk.getD j 0 := by
  have hok := (st_parts h).1
  rw [rd_ok h (by omega) (by omega)]
  have hin : inB ((j : Int) + 1) 1 6 = true := by simp [inB]; omega
  rw [dirty_fl h (by omega) (by omega)] at hd
  cases ho : flO bs ((j : Int) + 1)
  · rw [if_neg (by simp), show ((j : Int) + 1 - 1).toNat = j by omega]
  · rw [if_pos rfl]
    rw [ho] at hd
    have hl : flR bs ((j : Int) + 1) = lastR bs ((j : Int) + 1) := by unfold flR; rw [hok, hin]; rfl
    have ho2 : lastO bs ((j : Int) + 1) = true := by unfold flO at ho; rw [hok, hin] at ho; simpa using ho
    have hk : (lastR bs ((j : Int) + 1)).k = 2 := by
      rw [hl] at hd
      rcases lastR_ok bs ((j : Int) + 1) hok with e | ⟨e, _⟩
      · unfold lastO at ho2; rw [e] at ho2; simp [zRc] at ho2
      · simp [recB, inB] at e
        simp at hd
        omega
    have hb := (bad_iff.1 ((st_iff.1 h).2.2 j hj)).2
    rw [hl]
    exact Classical.byContradiction fun q => hb ⟨ho2, hk, q⟩
end Go.Proofs.YtogfelpdgeionaaGreat.Py

/-
  Plain facts of a store on which a record is written where one is to write.
-/
namespace Go.Proofs.YtogfelpdgeionaaGreat.Pz
open Go.ChangeShapes Go.WideShapes Go.ChangeAt Go.RowKit Go.Shelf OkA Big Fl ImplB ImplF ImplS ImplT ImplU SpecA SpecB SpecC SpecD SpecW SpecX SpecF SpecG SpecH FindP FindO ImplL FindN FindL Pl Kp StA StB StC StD StE StF StG SpS SpT Sv NwA PlB PlC PlD SpecO ImplQ FindQ Py
set_option linter.unusedVariables false
set_option linter.unusedSimpArgs false
variable {bs : List Bk} {dk : List Int}
/-- A record that may be written: its number is greater than all, its place is where one is to write. -/
structure Wr (bs : List Bk) (kb : Nat) (rk rs ra rv : Int) : Prop where
  ord : ordR bs = true
  op : fopR bs = ((kb : Int), true)
  kb4 : kb < 4
  pos : 0 < cN bs kb
  all : ∀ b ∈ bs, ∀ p ∈ b.ps, p.s < rs
  rc : recB rk rs ra rv = true
variable {kb : Nat} {rk rs ra rv : Int}
theorem Wr.ok (h : Wr bs kb rk rs ra rv) : okB bs = true := by have := h.ord; unfold ordR at this; rw [Bool.and_eq_true] at this; exact this.1
theorem Wr.yes (h : Wr bs kb rk rs ra rv) : SpecD.wrB bs (kb : Int) rk rs ra rv = true ∧ wrN bs kb rs = false := wr_open h.ok kb h.kb4 h.pos rk rs ra rv h.all h.rc
theorem Wr.res (h : Wr bs kb rk rs ra rv) (torn : Bool) : wrR bs (kb : Int) rk rs ra rv torn = wrL bs kb (pgW torn rk rs ra rv) ∧ okB (wrL bs kb (pgW torn rk rs ra rv)) = true := by
  obtain ⟨e, h1, _⟩ := wrR_yes (torn := torn) h.yes.1
  exact ⟨e, h1⟩
theorem Wr.num (h : Wr bs kb rk rs ra rv) : (1 ≤ rk ∧ rk ≤ 2) ∧ (1 ≤ rs ∧ rs ≤ 600) ∧ (1 ≤ ra ∧ ra ≤ 6) ∧ 0 ≤ rv ∧ rv ≤ 9 := by
  have := h.rc
  simp [recB, numB, inB] at this
  omega
theorem Wr.last (h : Wr bs kb rk rs ra rv) (torn : Bool) (a : Int) : lastR (wrL bs kb (pgW torn rk rs ra rv)) a = if torn = false ∧ ra = a then ⟨rk, rs, ra, rv⟩ else lastR bs a :=
  last_wr h.ok kb h.kb4 (Ok2.wrN_no h.yes.2).1 rk rs ra rv h.all (by have := h.num; omega) torn a
theorem Wr.lastO (h : Wr bs kb rk rs ra rv) (torn : Bool) (a : Int) : lastO (wrL bs kb (pgW torn rk rs ra rv)) a = if torn = false ∧ ra = a then true else Pl.lastO bs a := by
  unfold Pl.lastO
  rw [h.last]
  by_cases q : torn = false ∧ ra = a
  · rw [if_pos q, if_pos q]; have := h.num; simp; omega
  · rw [if_neg q, if_neg q]
theorem Wr.ordR (h : Wr bs kb rk rs ra rv) (torn : Bool) : SpecO.ordR (wrL bs kb (pgW torn rk rs ra rv)) = true := by
  have h0 := h.ord
  unfold SpecO.ordR at h0 ⊢
  rw [Bool.and_eq_true] at h0
  rw [(h.res torn).2, ord_wr h0.1 h0.2 kb h.op h.kb4 rk rs ra rv h.all torn]; rfl
/-- The store is ok behind it: of a clean record the slow disk has the value. -/
theorem Wr.st (h : Wr bs kb rk rs ra rv) (hs : stB bs dk = true) (torn : Bool) (hc : rk = 2 → torn = false → rv = dk.getD (ra - 1).toNat 0) : stB (wrL bs kb (pgW torn rk rs ra rv)) dk = true := by
  obtain ⟨_, h6, hb⟩ := st_iff.1 hs
  refine st_iff.2 ⟨h.ordR torn, h6, fun i hi => bad_iff.2 ⟨(bad_iff.1 (hb i hi)).1, ?_⟩⟩
  rintro ⟨q1, q2, q3⟩
  rw [h.last] at q2 q3
  rw [h.lastO] at q1
  by_cases q : torn = false ∧ ra = (i : Int) + 1
  · rw [if_pos q] at q2 q3
    have := hc q2 q.1
    rw [q.2, show ((i : Int) + 1 - 1).toNat = i by omega] at this
    exact q3 this
  · rw [if_neg q] at q1 q2 q3
    exact (bad_iff.1 (hb i hi)).2 ⟨q1, q2, q3⟩
theorem Wr.readI (h : Wr bs kb rk rs ra rv) (torn : Bool) (a : Int) : readI (wrL bs kb (pgW torn rk rs ra rv)) dk a = if torn = false ∧ ra = a then rv else Pl.readI bs dk a := by
  unfold Pl.readI
  rw [h.last, h.lastO]
  by_cases q : torn = false ∧ ra = a
  · rw [if_pos q, if_pos q, if_pos q]; rfl
  · rw [if_neg q, if_neg q, if_neg q]
theorem al_set (bs : List Bk) (dk : List Int) (a v : Int) (h1 : 1 ≤ a) (h6 : a ≤ 6) (f : Int → Int) (hf : ∀ x, f x = if a = x then v else readI bs dk x) :
    ((List.range 6).map fun i => f ((i : Nat) + 1 : Int)) = (alK bs dk 6).set (a - 1).toNat v := by
  refine List.ext_getElem (by simp [alK]) fun j q1 q2 => ?_
  simp at q1
  rw [List.getElem_map, List.getElem_range, hf]
  by_cases e : a = (j : Int) + 1
  · subst e
    rw [if_pos rfl]
    have : ((j : Int) + 1 - 1).toNat = j := by omega
    simp only [this]
    rw [List.getElem_set_self]
  · rw [if_neg e, List.getElem_set_ne (by omega)]
    simp [alK]
/-- What is read of it: the new value, unless it is torn. -/
theorem Wr.al (h : Wr bs kb rk rs ra rv) (hs : stB bs dk = true) (hc : rk = 2 → rv = dk.getD (ra - 1).toNat 0) : alS (wrL bs kb (pgW false rk rs ra rv)) dk = (alS bs dk).set (ra - 1).toNat rv := by
  have hn := h.num
  unfold alS
  rw [if_pos (h.st hs false fun q _ => hc q), if_pos hs]
  unfold alK
  exact al_set bs dk ra rv hn.2.2.1.1 hn.2.2.1.2 _ fun x => by rw [h.readI]; simp
theorem Wr.al_torn (h : Wr bs kb rk rs ra rv) (hs : stB bs dk = true) : alS (wrL bs kb (pgW true rk rs ra rv)) dk = alS bs dk := by
  unfold alS
  rw [if_pos (h.st hs true fun _ q => by cases q), if_pos hs]
  unfold alK
  refine List.map_congr_left fun i _ => ?_
  rw [h.readI]; simp
theorem wr_of (hs : stB bs dk = true) (hop : fopR bs = ((kb : Int), true)) (hk : kb < 4) (hc : 0 < cN bs kb) (hn : nextR bs ≤ 600) {a v : Int} (k : Int) (hk1 : 1 ≤ k) (hk2 : k ≤ 2) (h1 : 1 ≤ a) (h6 : a ≤ 6) (h0 : 0 ≤ v) (h9 : v ≤ 9) : Wr bs kb k (nextR bs) a v := by
  have hok := (st_parts hs).1
  obtain ⟨e, n1, _⟩ := next_ok hok
  exact ⟨(st_iff.1 hs).1, hop, hk, hc, fun b hb p hp => by rw [e]; exact page_lt b hb p hp, by simp [recB, numB, inB]; omega⟩
end Go.Proofs.YtogfelpdgeionaaGreat.Pz

/-
  Plain facts of a store of which one number of the slow disk is changed.
-/
namespace Go.Proofs.YtogfelpdgeionaaGreat.Pu
open Go.ChangeShapes Go.WideShapes Go.ChangeAt Go.RowKit Go.Shelf OkA Big Fl ImplB ImplF ImplS ImplT ImplU SpecA SpecB SpecC SpecD SpecW SpecF SpecG SpecH FindP ImplL FindN FindL Pl Kp StA StB StC StD StE StF StG SpS SpT Sv NwA PlB SpecO ImplQ FindQ Py
set_option linter.unusedVariables false
set_option linter.unusedSimpArgs false
variable {bs : List Bk} {dk : List Int}
theorem fl_last (hs : stB bs dk = true) {q : Nat} (hq : q < 6) : flO bs ((q : Int) + 1) = lastO bs ((q : Int) + 1) ∧ flR bs ((q : Int) + 1) = lastR bs ((q : Int) + 1) := by
  have hok := (st_parts hs).1
  have hin : inB ((q : Int) + 1) 1 6 = true := by simp [inB]; omega
  unfold flO flR
  rw [hok, hin]; simp
theorem getD_set (dk : List Int) (q j : Nat) (y : Int) (hq : q < dk.length) : (dk.set q y).getD j 0 = if j = q then y else dk.getD j 0 := by
  rw [List.getD_eq_getElem?_getD, List.getD_eq_getElem?_getD, List.getElem?_set]
  by_cases e : q = j
  · subst e; simp [hq]
  · rw [if_neg e, if_neg (fun h => e h.symm)]
theorem sd_bad (hs : stB bs dk = true) {q : Nat} (hq : q < 6) {y : Int} (hy : y ≠ dk.getD q 0) (ho : flO bs ((q : Int) + 1) = true) (hk : (flR bs ((q : Int) + 1)).k = 2) : stB bs (dk.set q y) = false := by
  obtain ⟨h0, h6, hb⟩ := st_iff.1 hs
  obtain ⟨e1, e2⟩ := fl_last hs hq
  rw [e1] at ho
  rw [e2] at hk
  cases h : stB bs (dk.set q y)
  · rfl
  · have b1 := (bad_iff.1 (hb q hq)).2
    have b2 := (bad_iff.1 ((st_iff.1 h).2.2 q hq)).2
    rw [getD_set dk q q y (by omega), if_pos rfl] at b2
    have v1 : (lastR bs ((q : Int) + 1)).v = dk.getD q 0 := Classical.byContradiction fun e => b1 ⟨ho, hk, e⟩
    have v2 : (lastR bs ((q : Int) + 1)).v = y := Classical.byContradiction fun e => b2 ⟨ho, hk, e⟩
    exact absurd (v2.symm.trans v1) hy
theorem sd_ok (hs : stB bs dk = true) {q : Nat} (hq : q < 6) {y : Int} (h0 : 0 ≤ y) (h9 : y ≤ 9) (h : ¬ (flO bs ((q : Int) + 1) = true ∧ (flR bs ((q : Int) + 1)).k = 2)) : stB bs (dk.set q y) = true := by
  obtain ⟨ho, h6, hb⟩ := st_iff.1 hs
  obtain ⟨e1, e2⟩ := fl_last hs hq
  rw [e1, e2] at h
  refine st_iff.2 ⟨ho, by simp [h6], fun i hi => bad_iff.2 ?_⟩
  rw [getD_set dk q i y (by omega)]
  by_cases e : i = q
  · subst e
    rw [if_pos rfl]
    exact ⟨⟨h0, h9⟩, fun t => h ⟨t.1, t.2.1⟩⟩
  · rw [if_neg e]
    exact bad_iff.1 (hb i hi)
theorem sd_al (hs : stB bs dk = true) {q : Nat} (hq : q < 6) {y : Int} (h : stB bs (dk.set q y) = true) (ho : flO bs ((q : Int) + 1) = true) : alS bs (dk.set q y) = alS bs dk := by
  have h6 := (st_iff.1 hs).2.1
  rw [(fl_last hs hq).1] at ho
  unfold alS
  rw [if_pos h, if_pos hs]
  unfold alK
  refine List.map_congr_left fun i hi => ?_
  unfold readI
  rw [show ((i : Int) + 1 - 1).toNat = i by omega, getD_set dk q i y (by omega)]
  by_cases e : i = q
  · subst e; rw [ho]; simp
  · rw [if_neg e]
end Go.Proofs.YtogfelpdgeionaaGreat.Pu
