/-
  Plain facts of a store on which a record is written where one is to write.
-/
import Derived.Test.YtkikeapfjpnkgaaPy
import Derived.Test.YtkikeapfjpnkgaaPlE
namespace Go.Proofs.Ytkikeapfjpnkgaa.Pz
open Go.ChangeShapes Go.WideShapes Go.ChangeAt Go.RowKit Go.Shelf OkA Big Fl ImplB ImplF ImplS ImplT ImplU SpecA SpecB SpecC SpecD SpecW SpecX SpecF SpecG SpecH FindP FindO ImplL FindN FindL Pl Kp StA StB StC StD StE StF StG SpS SpT Sv NwA PlB PlC PlD SpecO ImplQ FindQ Py
set_option linter.unusedVariables false
set_option linter.unusedSimpArgs false
variable {bs : List Bk} {dk : List Int}
/-- A record that may be written: its number is greater than all, its place is where one is to write. -/
structure Wr (bs : List Bk) (kb : Nat) (rk rs ra rv : Int) : Prop where
  ord : ordR bs = true
  op : fopR bs = ((kb : Int), true)
  kb4 : kb < 4
  pos : 0 < cN bs kb
  all : ∀ b ∈ bs, ∀ p ∈ b.ps, p.s < rs
  rc : recB rk rs ra rv = true
variable {kb : Nat} {rk rs ra rv : Int}
theorem Wr.ok (h : Wr bs kb rk rs ra rv) : okB bs = true := by have := h.ord; unfold ordR at this; rw [Bool.and_eq_true] at this; exact this.1
theorem Wr.yes (h : Wr bs kb rk rs ra rv) : SpecD.wrB bs (kb : Int) rk rs ra rv = true ∧ wrN bs kb rs = false := wr_open h.ok kb h.kb4 h.pos rk rs ra rv h.all h.rc
theorem Wr.res (h : Wr bs kb rk rs ra rv) (torn : Bool) : wrR bs (kb : Int) rk rs ra rv torn = wrL bs kb (pgW torn rk rs ra rv) ∧ okB (wrL bs kb (pgW torn rk rs ra rv)) = true := by
  obtain ⟨e, h1, _⟩ := wrR_yes (torn := torn) h.yes.1
  exact ⟨e, h1⟩
theorem Wr.num (h : Wr bs kb rk rs ra rv) : (1 ≤ rk ∧ rk ≤ 2) ∧ (1 ≤ rs ∧ rs ≤ 600) ∧ (1 ≤ ra ∧ ra ≤ 6) ∧ 0 ≤ rv ∧ rv ≤ 9 := by
  have := h.rc
  simp [recB, numB, inB] at this
  omega
theorem Wr.last (h : Wr bs kb rk rs ra rv) (torn : Bool) (a : Int) : lastR (wrL bs kb (pgW torn rk rs ra rv)) a = if torn = false ∧ ra = a then ⟨rk, rs, ra, rv⟩ else lastR bs a :=
  last_wr h.ok kb h.kb4 (Ok2.wrN_no h.yes.2).1 rk rs ra rv h.all (by have := h.num; omega) torn a
theorem Wr.lastO (h : Wr bs kb rk rs ra rv) (torn : Bool) (a : Int) : lastO (wrL bs kb (pgW torn rk rs ra rv)) a = if torn = false ∧ ra = a then true else Pl.lastO bs a := by
  unfold Pl.lastO
  rw [h.last]
  by_cases q : torn = false ∧ ra = a
  · rw [if_pos q, if_pos q]; have := h.num; simp; omega
  · rw [if_neg q, if_neg q]
theorem Wr.ordR (h : Wr bs kb rk rs ra rv) (torn : Bool) : SpecO.ordR (wrL bs kb (pgW torn rk rs ra rv)) = true := by
  have h0 := h.ord
  unfold SpecO.ordR at h0 ⊢
  rw [Bool.and_eq_true] at h0
  rw [(h.res torn).2, ord_wr h0.1 h0.2 kb h.op h.kb4 rk rs ra rv h.all torn]; rfl
/-- The store is ok behind it: of a clean record the slow disk has the value. -/
theorem Wr.st (h : Wr bs kb rk rs ra rv) (hs : stB bs dk = true) (torn : Bool) (hc : rk = 2 → torn = false → rv = dk.getD (ra - 1).toNat 0) : stB (wrL bs kb (pgW torn rk rs ra rv)) dk = true := by
  obtain ⟨_, h6, hb⟩ := st_iff.1 hs
  refine st_iff.2 ⟨h.ordR torn, h6, fun i hi => bad_iff.2 ⟨(bad_iff.1 (hb i hi)).1, ?_⟩⟩
  rintro ⟨q1, q2, q3⟩
  rw [h.last] at q2 q3
  rw [h.lastO] at q1
  by_cases q : torn = false ∧ ra = (i : Int) + 1
  · rw [if_pos q] at q2 q3
    have := hc q2 q.1
    rw [q.2, show ((i : Int) + 1 - 1).toNat = i by omega] at this
    exact q3 this
  · rw [if_neg q] at q1 q2 q3
    exact (bad_iff.1 (hb i hi)).2 ⟨q1, q2, q3⟩
theorem Wr.readI (h : Wr bs kb rk rs ra rv) (torn : Bool) (a : Int) : readI (wrL bs kb (pgW torn rk rs ra rv)) dk a = if torn = false ∧ ra = a then rv else Pl.readI bs dk a := by
  unfold Pl.readI
  rw [h.last, h.lastO]
  by_cases q : torn = false ∧ ra = a
  · rw [if_pos q, if_pos q, if_pos q]; rfl
  · rw [if_neg q, if_neg q, if_neg q]
theorem al_set (bs : List Bk) (dk : List Int) (a v : Int) (h1 : 1 ≤ a) (h6 : a ≤ 6) (f : Int → Int) (hf : ∀ x, f x = if a = x then v else readI bs dk x) :
    ((List.range 6).map fun i => f ((i : Nat) + 1 : Int)) = (alK bs dk 6).set (a - 1).toNat v := by
  refine List.ext_getElem (by simp [alK]) fun j q1 q2 => ?_
  simp at q1
  rw [List.getElem_map, List.getElem_range, hf]
  by_cases e : a = (j : Int) + 1
  · subst e
    rw [if_pos rfl]
    have : ((j : Int) + 1 - 1).toNat = j := by omega
    simp only [this]
    rw [List.getElem_set_self]
  · rw [if_neg e, List.getElem_set_ne (by omega)]
    simp [alK]
/-- What is read of it: the new value, unless it is torn. -/
theorem Wr.al (h : Wr bs kb rk rs ra rv) (hs : stB bs dk = true) (hc : rk = 2 → rv = dk.getD (ra - 1).toNat 0) : alS (wrL bs kb (pgW false rk rs ra rv)) dk = (alS bs dk).set (ra - 1).toNat rv := by
  have hn := h.num
  unfold alS
  rw [if_pos (h.st hs false fun q _ => hc q), if_pos hs]
  unfold alK
  exact al_set bs dk ra rv hn.2.2.1.1 hn.2.2.1.2 _ fun x => by rw [h.readI]; simp
theorem Wr.al_torn (h : Wr bs kb rk rs ra rv) (hs : stB bs dk = true) : alS (wrL bs kb (pgW true rk rs ra rv)) dk = alS bs dk := by
  unfold alS
  rw [if_pos (h.st hs true fun _ q => by cases q), if_pos hs]
  unfold alK
  refine List.map_congr_left fun i _ => ?_
  rw [h.readI]; simp
theorem wr_of (hs : stB bs dk = true) (hop : fopR bs = ((kb : Int), true)) (hk : kb < 4) (hc : 0 < cN bs kb) (hn : nextR bs ≤ 600) {a v : Int} (k : Int) (hk1 : 1 ≤ k) (hk2 : k ≤ 2) (h1 : 1 ≤ a) (h6 : a ≤ 6) (h0 : 0 ≤ v) (h9 : v ≤ 9) : Wr bs kb k (nextR bs) a v := by
  have hok := (st_parts hs).1
  obtain ⟨e, n1, _⟩ := next_ok hok
  exact ⟨(st_iff.1 hs).1, hop, hk, hc, fun b hb p hp => by rw [e]; exact page_lt b hb p hp, by simp [recB, numB, inB]; omega⟩
end Go.Proofs.Ytkikeapfjpnkgaa.Pz
