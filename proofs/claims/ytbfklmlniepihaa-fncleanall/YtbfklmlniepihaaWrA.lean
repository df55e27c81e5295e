/-
  The specification's steps by which a record is written.
-/
import Derived.Test.YtbfklmlniepihaaRmA
namespace Go.Proofs.Ytbfklmlniepihaa.WrA
open Go.ChangeShapes Go.WideShapes Go.ChangeAt Go.RowKit Go.Shelf OkA Big Fl ImplB ImplF ImplS _root_.Go.Proofs.Ytbfklmlniepihaa.Own ImplT ImplU SpecA SpecB SpecC SpecD SpecW SpecF SpecG SpecH Ok2 Pl FindP SpecX ImplL FindN FindL FindV Kp StA RmA
set_option linter.unusedVariables false
set_option linter.unusedSimpArgs false
attribute [local go_sem ↓] Go.wp_at_zero Go.wp_at_succ

def StpPost (w : World) (l : List Stp) (e : Ending) (w' : World) : Prop := ∃ v, e = .returned v ∧ Sts w' w.heap.size v l ∧ Below w.heap.size w w'
theorem roomL_len (bs : List Bk) (hF : Fours bs) (h4 : bs.length = 4) : (roomL bs).length ≤ 5 := by
  unfold roomL
  split
  · simp
  · have hob : oldB bs < bs.length := by unfold oldB; have := oldN_le bs 3; omega
    have := tellP_len bs (bs.getD (oldB bs) zBk).ps
    rw [getD_at bs _ hob, hF.at _ hob] at this
    rw [List.length_append, getD_at bs _ hob]
    simp
    omega

set_option maxRecDepth 100000 in
set_option maxHeartbeats 2000000 in
theorem write_steps (fb fo cap : Nat) (dv : Value) (kind addr val : Int) (bs : List Bk) (w : World) (hok : okB bs = true) (hf : ∀ i (hi : i < bs.length), BkAt w fb (fo + i * 2) bs[i]) :
    Calls Try.prog 35 #[.agg #[.slice (some ⟨fb, fo, none⟩) 4 cap, dv], .int .i64 kind, .int .i64 addr, .int .i64 val] w fun e w' => StpPost w (writeP bs kind addr val) e w' := by
  have h4 := ok_len hok
  have hF := ok_fours hok
  have hfs : FsAt w (some ⟨fb, fo, none⟩) bs := .inr ⟨fb, fo, rfl, hf⟩
  have hmb := mostB_le bs (ok_pages hok)
  have HW : Hid (wrap64 (mostB bs + 1) = mostB bs + 1) := by show _ = _; unfold wrap64; omega
  have HRM := hide (fun (w' : World) (hb : Below w.heap.size w w') => room_any fb fo cap dv bs w' hF h4 (fun i hi => (hf i hi).below hb))
  have HNX : Hid (∀ w', Below w.heap.size w w' → Calls Try.prog 42 #[.slice (some ⟨fb, fo, none⟩) 4 cap] w' fun e w'' => e = .returned (.int .i64 (mostB bs + 1)) ∧ Below w'.heap.size w' w'') := fun w' hb => by
    have := SpecF.next_any (some ⟨fb, fo, none⟩) cap bs w' (hfs.below hb) (by omega) (fun b hb => by rw [hF b hb]; omega)
    rw [h4, unhide HW] at this; exact this
  have HWP : Hid (writeP bs kind addr val = if roomO bs && recB kind (mostB bs + 1) addr val then roomL bs ++ [writeS (roomB bs) ⟨kind, mostB bs + 1, addr, val⟩] else []) := rfl
  have HRL := hide (roomL_len bs hF h4)
  have HSO := hide (fun (s : Int) (w' : World) => specOk_any kind s addr val w')
  have B0 : Below w.heap.size w (w.alloc (.cells #[.slice (some ⟨fb, fo, none⟩) 4 cap, dv] 59)) := (Below.refl _ _).alloc (Nat.le_refl _) _
  have cS := store_box w (.slice (some ⟨fb, fo, none⟩) 4 cap) dv
  have hs0 : w.heap.size + 1 = (w.alloc (.cells #[.slice (some ⟨fb, fo, none⟩) 4 cap, dv] 59)).heap.size := by simp
  clear hf hfs HW hok hmb
  generalize hmm : mostB bs + 1 = m at *
  clear hmm
  go_enter Try.func35, Try.ntmps35
  go_wp2_with fail
  generalize w.alloc (.cells #[.slice (some ⟨fb, fo, none⟩) 4 cap, dv] 59) = w1 at *
  refine (unhide HNX _ B0).mono ?_
  rintro e w2 ⟨rfl, b2⟩
  have B2 := B0.trans (b2.mono B0.size)
  have cS2 := cS.below b2 (by omega)
  have s2 : w.heap.size + 1 ≤ w2.heap.size := by have := b2.size; omega
  clear B0 b2 cS hs0
  have bn : Below w2.heap.size w2 (w2.alloc (.cells #[.int .i64 kind, .int .i64 m, .int .i64 addr, .int .i64 val] 29)) := (Below.refl _ _).alloc (Nat.le_refl _) _
  have cS3 := cS2.below bn (by omega)
  have B3 := B2.trans (bn.mono B2.size)
  have cR : CsAt (w2.alloc (.cells #[.int .i64 kind, .int .i64 m, .int .i64 addr, .int .i64 val] 29)) w2.heap.size [.int .i64 kind, .int .i64 m, .int .i64 addr, .int .i64 val] := CsAt.new w2 _ 29
  have s3 : w2.heap.size + 1 = (w2.alloc (.cells #[.int .i64 kind, .int .i64 m, .int .i64 addr, .int .i64 val] 29)).heap.size := by simp
  have x0 := cS3.cell 0 _ rfl
  have x1 := cS3.cell 1 _ rfl
  clear bn cS2 B2
  go_wp2_with fail
  generalize w2.alloc (.cells #[.int .i64 kind, .int .i64 m, .int .i64 addr, .int .i64 val] 29) = w3 at *
  generalize w2.heap.size = br at *
  refine (unhide HRM _ B3).mono ?_
  rintro e w4 ⟨v, rfl, hS, b4⟩
  have B4 := B3.trans (b4.mono B3.size)
  have cR4 := cR.below b4 (by omega)
  have s4 := b4.size
  have hS4 := hS.mono (show w.heap.size ≤ w3.heap.size by omega)
  clear b4 cR hS x0 x1 cS3 B3 HRM
  generalize roomL bs = L at *
  generalize roomB bs = rb at *
  have d0 := cR4.cell 0 _ rfl
  have d1 := cR4.cell 1 _ rfl
  have d2 := cR4.cell 2 _ rfl
  have d3 := cR4.cell 3 _ rfl
  have nl := Sts.nil w4 w.heap.size (by omega)
  have nB := B4.alloc B4.size (.cells #[] 81)
  cases hro : roomO bs
  · have HE : Hid (writeP bs kind addr val = []) := by show _ = _; rw [unhide HWP, hro]; rfl
    clear hro
    go_wp2
    go_ret
    exact ⟨_, rfl, by rw [unhide HE]; exact nl, nB⟩
  · cases hrb : recB kind m addr val
    · have HE : Hid (writeP bs kind addr val = []) := by show _ = _; rw [unhide HWP, hro, hrb]; rfl
      have HSO2 := hide (fun w' => unhide HSO m w')
      rw [hrb] at HSO2
      clear hro hrb nl nB
      go_wp2_with fail
      refine (unhide HSO2 _).mono ?_
      rintro e w5 ⟨rfl, b5⟩
      have B5 := B4.trans (b5.mono B4.size)
      have nl := Sts.nil w5 w.heap.size B5.size
      have nB := B5.alloc B5.size (.cells #[] 81)
      clear d0 d1 d2 d3
      go_wp2
      go_ret
      exact ⟨_, rfl, by rw [unhide HE]; exact nl, nB⟩
    · have HE : Hid (writeP bs kind addr val = L ++ [writeS rb ⟨kind, m, addr, val⟩]) := by show _ = _; rw [unhide HWP, hro, hrb]; rfl
      have HSO2 := hide (fun w' => unhide HSO m w')
      rw [hrb] at HSO2
      clear hro hrb nl nB
      go_wp2_with fail
      refine (unhide HSO2 _).mono ?_
      rintro e w5 ⟨rfl, b5⟩
      have B5 := B4.trans (b5.mono B4.size)
      have hS5 := hS4.below b5 (Nat.le_refl _)
      have cR5 := cR4.below b5 (by omega)
      clear d0 d1 d2 d3 b5 hS4 cR4 B4
      have d0 := cR5.cell 0 _ rfl
      have d1 := cR5.cell 1 _ rfl
      have d2 := cR5.cell 2 _ rfl
      have d3 := cR5.cell 3 _ rfl
      have bm : Below w5.heap.size w5 (w5.alloc (.cells (stC (writeS rb ⟨kind, m, addr, val⟩)).toArray 81)) := (Below.refl _ _).alloc (Nat.le_refl _) _
      have hS6 := hS5.below bm (Nat.le_refl _)
      have hB6 := B5.trans (bm.mono B5.size)
      have nw := CsAt.new w5 (stC (writeS rb ⟨kind, m, addr, val⟩)) 81
      have hlo : w.heap.size ≤ (w5.alloc (.cells (stC (writeS rb ⟨kind, m, addr, val⟩)).toArray 81)).heap.size := by have := B5.size; simp; omega
      have hR6 := hS6.row
      have hnw := src_mid nw.cells
      obtain ⟨iS, hiS, hzS, hsS, hbS⟩ := infoS
      clear bm hS5 B5
      rw [show (stC (writeS rb ⟨kind, m, addr, val⟩)).toArray = #[.int .i64 3, .int .i64 0, .int .i64 0, .int .i64 rb, .int .i64 kind, .int .i64 m, .int .i64 addr, .int .i64 val] from rfl] at *
      go_wp2_with (refine wpList_append_own _ rfl _ _ 74 rfl w.heap.size 81 iS (.agg (stC zSt).toArray) 8 64 Try.underlying74 hiS hzS hsS hbS rfl (by omega) _ L.length (stsC L) rfl hR6 ⟨w5.heap.size, 0, none⟩ 1 1 (stC (writeS rb ⟨kind, m, addr, val⟩)) rfl rfl hnw (one_stC _) (by have := unhide HRL; simp [maxLen]; omega) (by have := unhide HRL; omega) hlo ?_; intro v' w7 ho7 hg7 _)
      obtain ⟨P7, b7⟩ := hS6.push hlo ho7 hg7
      go_ret
      exact ⟨_, rfl, by rw [unhide HE]; exact P7, hB6.trans (b7.mono (Nat.le_refl _))⟩
end Go.Proofs.Ytbfklmlniepihaa.WrA
