/-
  The specification's FlashWipe, for every list of blocks.
-/
import Derived.Test.YtogioeflbbmppaaSpecW
namespace Go.Proofs.Ytogioeflbbmppaa.SpecX
open Go.ChangeShapes Go.WideShapes Go.ChangeAt Go.RowKit OkA Big Fl ImplB ImplF ImplS Own ImplT ImplU SpecA SpecB SpecC SpecD SpecW
set_option linter.unusedVariables false
set_option linter.unusedSimpArgs false

/-- What FlashWipe answers. -/
def wiR (bs : List Bk) (blk : Int) (torn : Bool) : List Bk :=
  if okB bs && inB blk 0 3 then (if wiN bs blk.toNat then bs else wiL bs blk.toNat torn) else []
def wiO (bs : List Bk) (blk : Int) : Bool := okB bs && inB blk 0 3 && !wiN bs blk.toNat
theorem wiL_len {bs : List Bk} {k : Nat} {t : Bool} : (wiL bs k t).length = bs.length := by simp [wiL]
theorem wiL_fours {bs : List Bk} (h : Fours bs) {k : Nat} {t : Bool} : Fours (wiL bs k t) := fun b hb => by
  rcases List.mem_or_eq_of_mem_set hb with h' | rfl
  · exact h b h'
  · simp [wiB]
theorem fs_at {w : World} {a : Option Addr} {bs : List Bk} (hf : FsAt w a bs) (h : bs.length = 4) : ∃ b o, a = some ⟨b, o, none⟩ ∧ ∀ i (hi : i < bs.length), BkAt w b (o + i * 2) bs[i] := by
  rcases hf with rfl | h'
  · simp at h
  · exact h'
theorem copy4 (fb fo cap : Nat) (bs : List Bk) (w : World) (hF : Fours bs) (h4 : bs.length = 4) (hf : ∀ i (hi : i < bs.length), BkAt w fb (fo + i * 2) bs[i]) :
    Calls Try.prog 65 #[.slice (some ⟨fb, fo, none⟩) 4 cap] w fun e w' => ∃ g G c, e = .returned (.slice (some ⟨g, 0, none⟩) 4 c) ∧ Own w' w.heap.size g G bs 4 ∧ Below w.heap.size w w' := by
  have := copy_any fb fo cap bs w hF (by omega) hf (by omega)
  rwa [h4] at this

set_option maxHeartbeats 1000000 in
theorem specWipe_any (a : Option Addr) (cap : Nat) (blk : Int) (torn : Bool) (bs : List Bk) (w : World) (hf : FsAt w a bs) (hm : bs.length ≤ 1048576) :
    Calls Try.prog 35 #[.slice a bs.length cap, .int .i64 blk, .bool torn] w fun e w' => OutPost w (wiR bs blk torn) (wiO bs blk) e w' := by
  have HC := hide (specFlashOk_any a cap bs w hf hm)
  cases hs : okB bs
  · have HR : Hid (wiR bs blk torn = []) := by show _ = _; unfold wiR; rw [hs]; rfl
    have HO : Hid (wiO bs blk = false) := by show _ = _; unfold wiO; rw [hs]; rfl
    rw [hs] at HC
    clear hs hf
    go_enter Try.func35, Try.ntmps35
    go_wp2_with fail
    refine (unhide HC).mono ?_
    rintro e w1 ⟨rfl, b1⟩
    go_wp2
    go_ret2
    rw [unhide HR, unhide HO]
    exact ⟨_, rfl, .inl ⟨rfl, _, _, rfl⟩, b1.alloc b1.size _⟩
  · cases hb : inB blk 0 3
    · have HR : Hid (wiR bs blk torn = []) := by show _ = _; unfold wiR; rw [hs, hb]; rfl
      have HO : Hid (wiO bs blk = false) := by show _ = _; unfold wiO; rw [hs, hb]; rfl
      have HI := hide (l6In_any blk 0 3)
      rw [hs] at HC
      rw [hb] at HI
      clear hs hf hb
      go_enter Try.func35, Try.ntmps35
      go_wp2_with fail
      refine (unhide HC).mono ?_
      rintro e w1 ⟨rfl, b1⟩
      go_wp2_with (go_at_call 63; refine (unhide HI _).mono ?_; rintro e w' ⟨rfl, hw'⟩; obtain rfl := hw'.symm)
      go_ret2
      rw [unhide HR, unhide HO]
      exact ⟨_, rfl, .inl ⟨rfl, _, _, rfl⟩, b1.alloc b1.size _⟩
    · obtain ⟨k, rfl, hk⟩ := in_range hb
      have h4 := ok_len hs
      have HF := hide (ok_fours hs)
      obtain ⟨fb, fo, rfl, hf'⟩ := fs_at hf h4
      have HR : Hid (wiR bs (k : Int) torn = if wiN bs k then bs else wiL bs k torn) := by show _ = _; unfold wiR; rw [hs, hb]; rfl
      have HO : Hid (wiO bs (k : Int) = !wiN bs k) := by show _ = _; unfold wiO; rw [hs, hb]; rfl
      have HL : Hid ((if wiN bs k then bs else wiL bs k torn).length = 4) := by
        show _ = _
        split
        · exact h4
        · rw [wiL_len]; exact h4
      have HFF := hide hf
      have HI := hide (l6In_any (k : Int) 0 3)
      have HS := hide hs
      rw [hs] at HC
      rw [hb] at HI
      rw [h4] at HC ⊢
      clear hs hf hb hf'
      go_enter Try.func35, Try.ntmps35
      go_wp2_with fail
      refine (unhide HC).mono ?_
      rintro e w1 ⟨rfl, b1⟩
      have F1 := hide ((unhide HFF).below b1)
      go_wp2_with (go_at_call 63; refine (unhide HI _).mono ?_; rintro e w' ⟨rfl, hw'⟩; obtain rfl := hw'.symm)
      refine (copy4 fb fo cap bs _ (unhide HF) h4 (by
        obtain ⟨b', o', he, h'⟩ := fs_at (unhide F1) h4
        simp at he
        obtain ⟨rfl, rfl⟩ := he
        exact h')).mono ?_
      rintro e w2 ⟨g, G, c, rfl, o2, b2⟩
      go_wp2_with fail
      refine (wipe_any _ _ _ _ _ k torn _ o2 (unhide HS) hk).mono ?_
      rintro e w3 ⟨rfl, o3, k3⟩
      have b3 := k3.below (fun x hx => o2.lo x hx) b2.size
      have B2 := b1.trans (b2.mono b1.size)
      have B3 := B2.trans (b3.mono b1.size)
      have o4 := o3.mono b1.size
      clear b1 b2 b3 k3 o2 o3 B2 F1
      rw [← unhide HR] at o4 HL
      rw [← unhide HO]
      have HOL := hide (show Own w3 w.heap.size g G (wiR bs (k : Int) torn) (wiR bs (k : Int) torn).length by rw [unhide HL]; exact o4)
      generalize hO : wiO bs (k : Int) = ok at *
      have HOE := hide hO
      clear hO o4 HO HR
      go_wp2
      go_ret2
      exact ⟨_, by rw [unhide HOE]; rfl, .inr ⟨g, G, c, by rw [unhide HL]; rfl, unhide HOL⟩, B3⟩
end Go.Proofs.Ytogioeflbbmppaa.SpecX
