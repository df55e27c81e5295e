/-
  FindOpen, of the program and of the specification: both answer the same.
-/
import Derived.Test.YtogioeflbbmppaaImplO
import Derived.Test.YtogioeflbbmppaaSpecX
namespace Go.Proofs.Ytogioeflbbmppaa.FindO
open Go.ChangeShapes Go.WideShapes Go.ChangeAt Go.RowKit OkA Big Fl ImplB ImplF ImplS Own ImplT ImplU SpecA SpecB SpecC SpecD SpecW SpecF SpecG SpecH Ok2 ImplO SpecX
set_option linter.unusedVariables false
set_option linter.unusedSimpArgs false

/-! Plain lists. -/
theorem openG_F (bs : List Bk) : ∀ (l : List Bk) (i o : Nat) (f : Bool), (∀ b ∈ l, b.ps.length = 4 ∧ tailB b.ps = true) → (f = false → o = 0) →
    openG bs l i o f = openF bs l i (if f then (o : Int) else -1)
  | [], i, o, f, _, h0 => by
    cases f
    · have := h0 rfl; subst this; rfl
    · simp only [openG, openF, if_true]
      have h1 : ¬ (o : Int) < 0 := by omega
      have h2 : (0 : Int) ≤ (o : Int) := by omega
      rw [if_neg h1]; simp [h2]
  | b :: r, i, o, f, hl, h0 => by
    obtain ⟨h4, ht⟩ := hl b (by simp)
    have hcu := clean_used b.ps ht
    rw [h4] at hcu
    have ih := fun i o f h => openG_F bs r i o f (fun x hx => hl x (by simp [hx])) h
    simp only [openG, openF]
    by_cases hb : 0 < cleanN b.ps ∧ cleanN b.ps < 4
    · rw [if_pos hb, if_pos (by simp [begB, inB]; omega)]
    · rw [if_neg hb, if_neg (by simp [begB, inB]; omega)]
      by_cases hz : usedN b.ps = 0
      · cases f
        · rw [if_pos ⟨hz, .inl rfl⟩, ih (i + 1) i true (fun h => by cases h)]
          have e : (0 < cleanN b.ps ∧ ((-1 : Int) < 0 ∨ b.wn < (bs.getD (-1 : Int).toNat zBk).wn)) := ⟨by omega, .inl (by omega)⟩
          simp only [Bool.false_eq_true, if_true, if_false]
          rw [if_pos e]
        · by_cases hw : b.wn < (bs.getD o zBk).wn
          · rw [if_pos ⟨hz, .inr hw⟩, ih (i + 1) i true (fun h => by cases h)]
            have e : (0 < cleanN b.ps ∧ ((o : Int) < 0 ∨ b.wn < (bs.getD (o : Int).toNat zBk).wn)) := ⟨by omega, .inr (by simpa using hw)⟩
            simp only [if_true]
            rw [if_pos e]
          · have e : ¬ (0 < cleanN b.ps ∧ ((o : Int) < 0 ∨ b.wn < (bs.getD (o : Int).toNat zBk).wn)) := fun h => h.2.elim (fun h => by omega) (fun h => hw (by simpa using h))
            have e2 : ¬ (usedN b.ps = 0 ∧ (true = false ∨ b.wn < (bs.getD o zBk).wn)) := fun h => h.2.elim (fun h => by cases h) hw
            rw [if_neg e2, ih (i + 1) o true (fun h => by cases h)]
            simp only [if_true]
            rw [if_neg e]
      · have e : ∀ x : Int, ¬ (0 < cleanN b.ps ∧ (x < 0 ∨ b.wn < (bs.getD x.toNat zBk).wn)) := fun x h => by omega
        have e2 : ¬ (usedN b.ps = 0 ∧ (f = false ∨ b.wn < (bs.getD o zBk).wn)) := fun h => hz h.1
        rw [if_neg e2, ih (i + 1) o f h0, if_neg (e _)]
theorem openI_R (bs : List Bk) (h : okB bs = true) : openI bs = openR bs := by
  obtain ⟨h4, hb, _⟩ := (okB_iff bs).1 h
  exact openG_F bs bs 0 0 false (fun b hm => by have := (bkB_iff b).1 (hb b hm); exact ⟨this.1, this.2.2.2⟩) (fun _ => rfl)
/-- What FindOpen answers. -/
def fopR (bs : List Bk) : Int × Bool := if okB bs then openR bs else (0, false)

set_option maxHeartbeats 400000 in
theorem specOpen_any (a : Option Addr) (cap : Nat) (bs : List Bk) (w : World) (hf : FsAt w a bs) (hm : bs.length ≤ 1048576) :
    Calls Try.prog 51 #[.slice a bs.length cap] w fun e w' => OpPost w (fopR bs) e w' := by
  have HC := hide (specFlashOk_any a cap bs w hf hm)
  have HF := hide hf
  clear hf
  have HR : Hid (fopR bs = if okB bs then openR bs else (0, false)) := rfl
  generalize fopR bs = R at *
  obtain ⟨x, y⟩ := R
  cases hok : okB bs
  · rw [hok] at HC HR
    go_enter Try.func51, Try.ntmps51
    go_wp2_with fail
    refine (unhide HC).mono ?_
    rintro e w1 ⟨rfl, b1⟩
    go_wp2
    go_ret2
    exact ⟨by rw [unhide HR]; rfl, b1⟩
  · have h4 := ok_len hok
    have hF := ok_fours hok
    rw [hok] at HC HR
    rw [if_pos rfl] at HR
    obtain ⟨fb, fo, rfl, _⟩ := fs_at (unhide HF) h4
    rw [h4] at HC ⊢
    go_enter Try.func51, Try.ntmps51
    go_wp2_with fail
    refine (unhide HC).mono ?_
    rintro e w1 ⟨rfl, b1⟩
    go_wp2_with fail
    refine (open_any fb fo cap bs _ hF h4 (by
      obtain ⟨b', o', he, h'⟩ := fs_at ((unhide HF).below b1) h4
      simp at he
      obtain ⟨rfl, rfl⟩ := he
      exact h')).mono ?_
    rintro e w2 ⟨rfl, b2⟩
    rw [← unhide HR]
    go_wp2
    go_ret2
    exact ⟨rfl, b1.trans (b2.mono b1.size)⟩

set_option maxHeartbeats 400000 in
theorem implOpen_any (a : Option Addr) (cap : Nat) (bs : List Bk) (w : World) (hf : FsAt w a bs) (hm : bs.length ≤ 9223372036854775807) :
    Calls Try.prog 49 #[.slice a bs.length cap] w fun e w' => OpPost w (fopR bs) e w' := by
  obtain ⟨zf, hz, hz84⟩ := zrow
  have HZ := hide hz
  clear hz
  have HR : Hid (fopR bs = if okB bs then openR bs else (0, false)) := rfl
  generalize fopR bs = R at *
  obtain ⟨x, y⟩ := R
  go_enter Try.func49, Try.ntmps49
  go_wp2_with fail
  refine (ofz_any a cap bs _ hf hm).mono ?_
  rintro e w1 ⟨ks, rfl, hk4, hkF, hke, b1⟩
  have hsz : zf.size = (fsC ks).toArray.size := by rw [hz84, List.size_toArray, len_fsC _ hkF, hk4]
  have r1 := rangeAt_new w1 (fsC ks) 73
  have B1 := b1.alloc b1.size (.cells (fsC ks).toArray 73)
  clear b1
  cases hs : okB bs
  · rw [hs] at HR
    clear hs hke
    go_wp2_with (first | (refine wpList_alloc_big rfl 73 rfl zf (unhide HZ) ?_) | (refine wpList_store_new rfl 73 _ _ rfl w1 zf (fsC ks).toArray rfl rfl rfl (size_fsa hkF hk4) hsz (one_fs ks) ?_))
    go_ret2
    exact ⟨by rw [unhide HR]; rfl, B1⟩
  · obtain rfl := hke hs
    rw [hs, if_pos rfl, ← openI_R ks hs] at HR
    clear hs hke
    go_wp2_with (first | (refine wpList_alloc_big rfl 73 rfl zf (unhide HZ) ?_) | (refine wpList_store_new rfl 73 _ _ rfl w1 zf (fsC ks).toArray rfl rfl rfl (size_fsa hkF hk4) hsz (one_fs ks) ?_) | (refine wpList_load_mid rfl 73 _ rfl w1.heap.size 0 rfl (fsC ks) _ r1 Try.underlying73 rfl (size_fsl hkF hk4) ?_))
    refine (openK_any ks hk4 hkF _).mono ?_
    rintro e w2 ⟨rfl, b2⟩
    clear r1
    rw [← unhide HR]
    go_wp2
    go_ret2
    exact ⟨rfl, B1.trans (b2.mono B1.size)⟩
end Go.Proofs.Ytogioeflbbmppaa.FindO
