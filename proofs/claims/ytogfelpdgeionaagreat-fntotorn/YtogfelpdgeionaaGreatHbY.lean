/-
  Texts that belong together, one behind the other: Ps.
-/
import Derived.Test.YtogfelpdgeionaaGreatHbW
import Derived.Test.YtogfelpdgeionaaGreatHbJ
import Derived.Test.YtogfelpdgeionaaGreatHbV

/-
  Steps done, as the laws ask it; what is read of a store behind them.
-/
namespace Go.Proofs.YtogfelpdgeionaaGreat.Ps
open Go.ChangeShapes Go.WideShapes Go.ChangeAt Go.RowKit Go.Shelf OkA Big Fl ImplB ImplF ImplS ImplT ImplU SpecA SpecB SpecC SpecD SpecW SpecX SpecF SpecG SpecH Ok2 FindP FindO ImplL FindN FindL Pl Kp StA StB StC StD StE StF StG SpS SpT Sv NwA PlB PlC PlD SpecO ImplQ FindQ Py Pz RmA WrA FlA DoA ToA PlA LawU LawS SpU TwC QuB QuE MkN Ct Cu Pw
set_option linter.unusedVariables false
set_option linter.unusedSimpArgs false
variable {fa da : Option Addr} {fc dc : Nat} {bs : List Bk} {dk : List Int} {L T : List Stp} {wp : Bool} {kb : Nat} {rk ra rv : Int}

def ToP (w : World) (B : List Bk) (K : List Int) (e : Ending) (w' : World) : Prop := ∃ fa fc da dc, e = .returned (.tuple #[.agg #[.slice fa B.length fc, .slice da K.length dc], .bool true]) ∧ SAt w' fa B da K ∧ Below w.heap.size w w'
theorem iTo {sa : Option Addr} {sc : Nat} (cut : Int) (torn : Bool) (w : World) (h : SAt w fa bs da dk) (h4 : bs.length ≤ 4) (h6 : dk.length ≤ 6) (hl : StAt w sa L) (hL : L.length ≤ 1048576) (h0 : 0 ≤ cut) (h1 : cut ≤ 1048576) (hok : toOk bs dk L cut = true) :
    Calls Tryz.prog 28 #[.agg #[.slice fa bs.length fc, .slice da dk.length dc], .slice sa L.length sc, .int .i64 cut, .bool torn] w fun e w' => ToP w (toB bs L cut torn) (toK dk L cut torn) e w' := by
  refine (implTo_any fa fc bs da dc dk sa sc L cut (by omega) (by omega) torn w h (by
    rcases hl with q | ⟨g, rfl, _, hr⟩
    · exact .inl q
    · exact .inr ⟨g, 0, rfl, hr⟩) (by omega) (by omega) hL).mono fun e w' hT => ?_
  obtain ⟨x, y, rfl, I, b⟩ := InT.of hT
  rw [hok] at I ⊢
  rcases I with ⟨q, _⟩ | ⟨_, g, G, d, c1, c2, rfl, rfl, o, _, _, e4, e6⟩
  · cases q
  · exact ⟨_, c1, _, c2, by rw [e4, e6], o.sat, b⟩
def ToI (w : World) (B : List Bk) (K : List Int) (e : Ending) (w' : World) : Prop := ∃ fa fc da dc, e = .returned (.tuple #[.agg #[.slice fa B.length fc, .slice da K.length dc], .bool true]) ∧ InT w' w.heap.size w'.heap.size (.slice fa B.length fc) (.slice da K.length dc) true B K ∧ Below w.heap.size w w'
theorem iToI {sa : Option Addr} {sc : Nat} (cut : Int) (torn : Bool) (w : World) (h : SAt w fa bs da dk) (h4 : bs.length ≤ 4) (h6 : dk.length ≤ 6) (hl : StAt w sa L) (hL : L.length ≤ 1048576) (h0 : 0 ≤ cut) (h1 : cut ≤ 1048576) (hok : toOk bs dk L cut = true) :
    Calls Tryz.prog 28 #[.agg #[.slice fa bs.length fc, .slice da dk.length dc], .slice sa L.length sc, .int .i64 cut, .bool torn] w fun e w' => ToI w (toB bs L cut torn) (toK dk L cut torn) e w' := by
  refine (implTo_any fa fc bs da dc dk sa sc L cut (by omega) (by omega) torn w h (by
    rcases hl with q | ⟨g, rfl, _, hr⟩
    · exact .inl q
    · exact .inr ⟨g, 0, rfl, hr⟩) (by omega) (by omega) hL).mono fun e w' hT => ?_
  obtain ⟨x, y, rfl, I, b⟩ := InT.of hT
  rw [hok] at I ⊢
  rcases I with ⟨q, _⟩ | ⟨_, g, G, d, c1, c2, rfl, rfl, o, hr, hF, e4, e6⟩
  · cases q
  · exact ⟨some ⟨g, 0, none⟩, c1, some ⟨d, 0, none⟩, c2, by rw [e4, e6], .inr ⟨rfl, g, G, d, c1, c2, by rw [e4], by rw [e6], o, hr, hF, e4, e6⟩, b⟩
theorem sat_of {w : World} {lo hi n m : Nat} {B : List Bk} {K : List Int} (h : InT w lo hi (.slice fa n fc) (.slice da m dc) true B K) : SAt w fa B da K := by
  rcases h with ⟨q, _⟩ | ⟨_, g, G, d, c1, c2, e1, e2, o, _⟩
  · cases q
  · cases e1; cases e2; exact o.sat
theorem al_en {B : List Bk} {K : List Int} (h : En bs dk rk ra rv B K) (hs : stB bs dk = true) (h1 : 1 ≤ ra) (h6 : ra ≤ 6) : alS B K = (alS bs dk).set (ra - 1).toNat rv := by
  unfold alS
  rw [if_pos h.st, if_pos hs]
  refine List.ext_getElem (by simp [alK]) fun j q1 q2 => ?_
  have q3 : j < 6 := by simpa [alK] using q1
  have hr := h.rd ((j : Int) + 1) (by omega) (by omega)
  by_cases e : ra = (j : Int) + 1
  · subst e
    rw [if_pos rfl] at hr
    have : ((j : Int) + 1 - 1).toNat = j := by omega
    simp only [this]
    rw [List.getElem_set_self]
    simpa [alK] using hr
  · rw [if_neg e] at hr
    rw [List.getElem_set_ne (by omega)]
    simpa [alK] using hr
theorem fl_en {B : List Bk} {K : List Int} (h : En bs dk rk ra rv B K) (h1 : 1 ≤ ra) (h6 : ra ≤ 6) (h0 : 1 ≤ mostB bs + 1) : flR B ra = ⟨rk, mostB bs + 1, ra, rv⟩ ∧ flO B ra = true := by
  have hok := (st_parts h.st).1
  have hin : inB ra 1 6 = true := by simp [inB]; omega
  unfold flO flR lastO
  rw [hok, hin, h.last]
  simp
  omega
theorem toB_len4 {cut : Int} {torn : Bool} (h : stB (toB bs L cut torn) (toK dk L cut torn) = true) : (toB bs L cut torn).length ≤ 4 ∧ (toK dk L cut torn).length ≤ 6 := by
  obtain ⟨q1, q2⟩ := st_parts h
  exact ⟨by have := ok_len q1; omega, by omega⟩
/-! What a put leaves. -/
structure PutE (bs : List Bk) (dk : List Int) (a v : Int) : Prop where
  hs : stB bs dk = true
  num : 1 ≤ a ∧ a ≤ 6 ∧ 0 ≤ v ∧ v ≤ 9
  tk : ∀ cut : Int, 0 ≤ cut → toOk bs dk (putS bs dk a v) cut = true
  full : En bs dk 1 a v (toB bs (putS bs dk a v) ((putS bs dk a v).length : Int) false) (toK dk (putS bs dk a v) ((putS bs dk a v).length : Int) false)
  part : ∀ (cut : Int) (torn : Bool), 0 ≤ cut → cut < (putS bs dk a v).length → Sm bs dk (toB bs (putS bs dk a v) cut torn) (toK dk (putS bs dk a v) cut torn)
theorem put_e {a v : Int} (hne : putS bs dk a v ≠ []) : PutE bs dk a v := by
  obtain ⟨T, wp, kb, P⟩ := put_plan hne
  have hn := P.num
  exact ⟨P.st, by omega, fun c h0 => P.tk c h0, P.done _ (Int.le_refl _) false, fun c t h0 h1 => P.cut c h0 h1 t⟩
/-! What a flush leaves. -/
theorem Pn.done_or (P : Pn bs dk L T wp kb rk ra rv) (e : rv = readI bs dk ra) (cut : Int) (h0 : 0 ≤ cut) (torn : Bool) : Sm bs dk (toB bs L cut torn) (toK dk L cut torn) := by
  by_cases h : cut < L.length
  · exact P.cut cut h0 h torn
  · exact En.sm (P.done cut (by omega) torn) e
structure FlushE (bs : List Bk) (dk : List Int) (a : Int) : Prop where
  hs : stB bs dk = true
  num : 1 ≤ a ∧ a ≤ 6
  dirty : dirtyB bs a = true
  tk : ∀ cut : Int, 0 ≤ cut → toOk bs dk (flushS bs dk a) cut = true
  full : En bs dk 2 a (readI bs dk a) (toB bs (flushS bs dk a) ((flushS bs dk a).length : Int) false) (toK dk (flushS bs dk a) ((flushS bs dk a).length : Int) false)
  disk : (toK dk (flushS bs dk a) ((flushS bs dk a).length : Int) false).getD (a - 1).toNat 0 = readI bs dk a
  part : ∀ (cut : Int) (torn : Bool), 0 ≤ cut → Sm bs dk (toB bs (flushS bs dk a) cut torn) (toK dk (flushS bs dk a) cut torn)
theorem flush_e {a : Int} (hne : flushS bs dk a ≠ []) : FlushE bs dk a := by
  obtain ⟨hd, hin, T, wp, kb, P⟩ := flush_plan hne
  exact ⟨P.st, hin, hd, fun c h0 => P.tk c h0, P.done _ (Int.le_refl _) false, by rw [(to_done (bs := bs) (Int.le_refl _) false).2, P.full.2]; exact P.dkv rfl, fun c t h0 => Pn.done_or P rfl c h0 t⟩
theorem en_clean {B : List Bk} {K : List Int} (h : En bs dk 2 ra rv B K) : dirtyB B ra = false := by unfold dirtyB; rw [h.last]; simp
theorem flush_no {a : Int} (hd : dirtyB bs a = false) : flushS bs dk a = [] := by
  unfold flushS flushP
  rw [hd]
  split <;> simp
structure FillE (bs : List Bk) (dk : List Int) (a : Int) : Prop where
  hs : stB bs dk = true
  num : 1 ≤ a ∧ a ≤ 6
  none : lastO bs a = false
  tk : ∀ cut : Int, 0 ≤ cut → toOk bs dk (fillS bs dk a) cut = true
  full : En bs dk 2 a (readI bs dk a) (toB bs (fillS bs dk a) ((fillS bs dk a).length : Int) false) (toK dk (fillS bs dk a) ((fillS bs dk a).length : Int) false)
  part : ∀ (cut : Int) (torn : Bool), 0 ≤ cut → Sm bs dk (toB bs (fillS bs dk a) cut torn) (toK dk (fillS bs dk a) cut torn)
theorem fill_e {a : Int} (hne : fillS bs dk a ≠ []) : FillE bs dk a := by
  obtain ⟨hd, hin, T, wp, kb, P⟩ := fill_plan hne
  exact ⟨P.st, hin, hd, fun c h0 => P.tk c h0, P.done _ (Int.le_refl _) false, fun c t h0 => Pn.done_or P rfl c h0 t⟩
end Go.Proofs.YtogfelpdgeionaaGreat.Ps
