/-
  The program's stores as they are kept: whether the slow disk has what is clean; the whole store, if it is ok.
-/
import Derived.Test.YtahloklmogkaeaaStD
import Derived.Test.YtahloklmogkaeaaImplW
namespace Go.Proofs.Ytahloklmogkaeaa.StE
open Go.ChangeShapes Go.WideShapes Go.ChangeAt Go.RowKit Go.Shelf OkA Big Fl ImplB ImplF ImplS _root_.Go.Proofs.Ytahloklmogkaeaa.Own ImplT ImplU SpecA SpecB SpecC SpecD SpecW SpecF SpecG SpecH Ok2 Pl FindP ImplO SpecX ImplW ImplL FindN FindL FindV FindQ Kp StA MpA StB StC StD
set_option linter.unusedVariables false
set_option linter.unusedSimpArgs false
attribute [local go_sem ↓] Go.wp_at_zero Go.wp_at_succ

theorem field_rec (r : Rc) (w : World) : (Instr.field 53 (.agg (rcC r).toArray) 3).run Try.prog w = .ok (.int .i64 r.v) w := by
  have hagg : (isAgg 3).run Try.prog w = .ok false w := by
    unfold isAgg
    rw [Sem.run_bind, run_underlying Try.underlying3 w]
    rfl
  have hsz : (Try.prog.info? 3).map (·.size) = some 1 := by kernel_rfl
  cases hq : Try.prog.info? 3 with
  | none => simp [hq] at hsz
  | some j =>
    have hj : j.size = 1 := by simpa [hq] using hsz
    simp [Instr.field, run_underlying Try.underlying53, part, asAgg, hagg, sizeOf, typeInfo, hq, hj, rcC]
/-- The slow disk has what is clean. -/
def hcB (f : Int → Option Rc) (dk : List Int) : Bool := (whK kindC f 6).all fun a => dkV dk a == ((f a).getD zRc).v
theorem sk_disk {w : World} {S mb : Nat} {dk : List Int} (h : CsAt w S (skC mb dk)) : w.rangeAt S 1 (isC dk) := fun j v hv => by
  have := h.cells (j + 1) v (by simpa [skC] using hv)
  rw [Nat.zero_add] at this
  rw [Nat.add_comm]; exact this

set_option maxRecDepth 100000 in
set_option maxHeartbeats 1000000 in
theorem hasClean_any (mb n : Nat) (f : Int → Option Rc) (dk : List Int) (h6 : dk.length = 6) (w : World) (hM : MapAt w mb n f) :
    Calls Try.prog 108 #[.agg (skC mb dk).toArray] w fun e w' => e = .returned (.bool (hcB f dk)) ∧ Below w.heap.size w w' := by
  have cS := CsAt.new w (skC mb dk) 72
  have rS := cS.cells
  have B0 : Below w.heap.size w (w.alloc (.cells (skC mb dk).toArray 72)) := (Below.refl _ _).alloc (Nat.le_refl _) _
  have s0 : w.heap.size + 1 ≤ (w.alloc (.cells (skC mb dk).toArray 72)).heap.size := by simp
  have hM2 := hM.below B0 hM.lt
  have hml := hM.lt
  have HR : Hid (hcB f dk = (whK kindC f 6).all fun a => dkV dk a == ((f a).getD zRc).v) := rfl
  have HS := hide (size_sk (mb := mb) h6)
  have HSD := hide (size_dk h6)
  have HL6 : Hid ((whK kindC f 6).length ≤ 6) := whK_len _ _ _
  have HMEM : Hid (∀ x ∈ whK kindC f 6, 1 ≤ x ∧ x ≤ 6) := fun x hx => by have := (whK_mem.1 hx).1; omega
  have HWH := hide (fun (w' : World) (h : MapAt w' mb n f) => whoseC_any mb n f dk h6 w' h)
  have HDO := hide (fun (addr : Int) (h1 : 1 ≤ addr) (h2 : addr ≤ 6) (w' : World) => dof_any dk h6 addr h1 h2 w')
  generalize hcB f dk = R at *
  clear hM
  go_enter Try.func108, Try.ntmps108
  go_wp2_with (first | (refine wpList_box_big rfl _ _ rfl (skC mb dk).toArray rfl ?_) | (refine wpList_load_mid rfl 72 _ rfl w.heap.size 0 rfl (skC mb dk) _ rS Try.underlying72 rfl (unhide HS) ?_))
  generalize w.alloc (.cells (skC mb dk).toArray 72) = w1 at *
  refine (unhide HWH _ hM2).mono ?_
  rintro e w2 ⟨v, rfl, hRw, b2⟩
  obtain ⟨a, cap, rfl, hA⟩ := hRw.form
  have cS2 := cS.below b2 (by omega)
  have hM3 := hM2.below b2 (by omega)
  have B2 := B0.trans (b2.mono B0.size)
  have s2 := Nat.le_trans s0 b2.size
  clear cS rS hM2 B0 s0 b2 hRw HWH
  generalize whK kindC f 6 = L at *
  have hL6 := unhide HL6
  have hL6i : (L.length : Int) ≤ 6 := by omega
  go_wp2
  go_loopw [8] (fun i w' => ∃ k : Nat, k ≤ L.length ∧ i = .int .i64 k ∧ Hid (∀ j (hj : j < L.length), j < k → (dkV dk L[j] == ((f L[j]).getD zRc).v) = true) ∧ Hid (DkAt w' a L) ∧ CsAt w' w.heap.size (skC mb dk) ∧ MapAt w' mb n f ∧ w.heap.size + 1 ≤ w'.heap.size ∧ Below w.heap.size w w') (fun i _ => L.length - (intOf i).toNat)
  case atStart => exact ⟨0, by omega, rfl, (fun j hj h => by omega), hA, cS2, hM3, s2, B2⟩
  case round =>
    clear hA cS2 hM3 s2 B2
    obtain ⟨k, hk, rfl, HI, HA, hC, hM, hs, hB⟩ := hrel
    by_cases h0 : k = L.length
    · subst h0
      have HT : Hid (R = true) := by
        show _ = _
        rw [unhide HR, List.all_eq_true]
        intro x hx
        obtain ⟨j, hj, rfl⟩ := List.getElem_of_mem hx
        exact unhide HI j hj hj
      go_wp2
      go_ret
      exact ⟨by rw [unhide HT]; rfl, hB⟩
    · have hkb : k < L.length := by omega
      have hlt : (k : Int) < (L.length : Int) := by omega
      have hlo : (0 : Int) ≤ (k : Int) := by omega
      obtain ⟨ab, ao, rfl, hr⟩ : ∃ b o, a = some ⟨b, o, none⟩ ∧ wr.rangeAt b o (isC L) := by
        rcases unhide HA with rfl | h
        · simp at hkb
        · exact h
      have xk := isC_at hr k hkb
      have eG : L.getD k 0 = L[k] := by rw [List.getD_eq_getElem?_getD, List.getElem?_eq_getElem hkb]; rfl
      rw [eG] at xk
      have hx := unhide HMEM L[k] (List.getElem_mem hkb)
      have HIN : Hid (∀ b, (dkV dk L[k] == ((f L[k]).getD zRc).v) = b → (b = true → ∀ j (hj : j < L.length), j < k + 1 → (dkV dk L[j] == ((f L[j]).getD zRc).v) = true) ∧ (b = false → R = false)) := fun b hb => ⟨fun e j hj h => by
          by_cases q : j = k
          · subst q; rw [hb]; exact e
          · exact unhide HI j hj (by omega), fun e => by
          rw [unhide HR]
          cases q : L.all fun a => dkV dk a == ((f a).getD zRc).v
          · rfl
          · rw [List.all_eq_true] at q
            have := q L[k] (List.getElem_mem hkb)
            rw [hb, e] at this; cases this⟩
      clear eG hr
      generalize L[k] = ad at *
      have HLK := hide (fun (w' : World) (h : MapAt w' mb n f) => h.look (i := ad) (by omega) (by omega))
      have HDF := hide (fun (w' : World) => unhide HDO ad hx.1 hx.2 w')
      generalize (f ad).getD zRc = r at *
      generalize dkV dk ad = d at *
      go_wp2
      refine wp_region_noPanic ?_
      refine wp_region_held_drew (S := fun w' => CsAt w' w.heap.size (skC mb dk) ∧ MapAt w' mb n f) (by kernel_rfl) (⟨⟨fun j v hv => hC.cells j v hv, fun j hj => hC.free j hj⟩, hM⟩) (fun hHeld => ?_)
      refine takeL 0 (.pointer (some ⟨w.heap.size, 1, none⟩)) rfl (by kernel_rfl) (by kernel_rfl) (by kernel_rfl) (fun _ _ _ h => h) (Or.inl ⟨rfl, fun w9 hSw => by go_simp⟩) hHeld ?_
      try simp only [Act.put, List.setIfInBounds_toArray, List.set_cons_zero, List.set_cons_succ]
      refine takeL 1 (_) rfl (by kernel_rfl) (by kernel_rfl) (by kernel_rfl) (fun _ _ _ h => h) (yieldsIf_load_mid rfl 70 _ rfl w.heap.size 1 rfl (isC dk) _ (fun _ h => sk_disk h.1) Try.underlying70 rfl (unhide HSD)) hHeld ?_
      try simp only [Act.put, List.setIfInBounds_toArray, List.set_cons_zero, List.set_cons_succ]
      refine takeL 2 (.int .i64 ad) rfl (by kernel_rfl) (by kernel_rfl) (by kernel_rfl) (fun _ _ _ h => h) (Or.inl ⟨rfl, fun _ _ => rfl⟩) hHeld ?_
      try simp only [Act.put, List.setIfInBounds_toArray, List.set_cons_zero, List.set_cons_succ]
      refine takeL 4 (.pointer (some ⟨w.heap.size, 0, none⟩)) rfl (by kernel_rfl) (by kernel_rfl) (by kernel_rfl) (fun _ _ _ h => h) (Or.inl ⟨rfl, fun w9 hSw => by go_simp⟩) hHeld ?_
      try simp only [Act.put, List.setIfInBounds_toArray, List.set_cons_zero, List.set_cons_succ]
      refine takeL 5 (.map (some mb)) rfl (by kernel_rfl) (by kernel_rfl) (by kernel_rfl) (fun _ _ _ h => h) (Or.inl ⟨rfl, fun w9 hSw => by have hc := hSw.1.cell 0 _ rfl; go_simp⟩) hHeld ?_
      try simp only [Act.put, List.setIfInBounds_toArray, List.set_cons_zero, List.set_cons_succ]
      refine takeL 6 (.int .i64 ad) rfl (by kernel_rfl) (by kernel_rfl) (by kernel_rfl) (fun _ _ _ h => h) (Or.inl ⟨rfl, fun _ _ => rfl⟩) hHeld ?_
      try simp only [Act.put, List.setIfInBounds_toArray, List.set_cons_zero, List.set_cons_succ]
      refine takeL 7 (.agg (rcC r).toArray) rfl (by kernel_rfl) (by kernel_rfl) (by kernel_rfl) (fun _ _ _ h => h) (Or.inl ⟨rfl, fun w9 hSw => by have hl := unhide HLK w9 hSw.2; go_simp⟩) hHeld ?_
      try simp only [Act.put, List.setIfInBounds_toArray, List.set_cons_zero, List.set_cons_succ]
      refine takeL 8 (.int .i64 r.v) rfl (by kernel_rfl) (by kernel_rfl) (by kernel_rfl) (fun _ _ _ h => h) (Or.inl ⟨rfl, fun w9 hSw => by have hf := field_rec r w9; go_simp⟩) hHeld ?_
      try simp only [Act.put, List.setIfInBounds_toArray, List.set_cons_zero, List.set_cons_succ]
      refine oneL 3 rfl (by kernel_rfl) rfl (fun K hK => ?_)
      go_simp
      refine (unhide HDF _).mono ?_
      rintro e wz ⟨rfl, bz⟩
      go_wp2_with fail
      refine hK.out _ _ ⟨hHeld.1.below bz (by show _ < wr.heap.size; omega), hHeld.2.below bz hHeld.2.lt⟩ (fun hHeld => ?_)
      clear hK K
      try simp only [Act.put, List.setIfInBounds_toArray, List.set_cons_zero, List.set_cons_succ]
      refine takeL 9 (.bool (d != r.v)) rfl (by kernel_rfl) (by kernel_rfl) (by kernel_rfl) (fun _ _ _ h => h) (Or.inl ⟨rfl, fun w9 hSw => by go_simp⟩) hHeld ?_
      try simp only [Act.put, List.setIfInBounds_toArray, List.set_cons_zero, List.set_cons_succ]
      refine wpAnyH_done (by kernel_rfl) ?_ _
      refine NoPanic.normal ?_
      have hB2 := hB.drew.trans (bz.mono hB.size)
      have hs2 : w.heap.size + 1 ≤ wz.heap.size := Nat.le_trans hs bz.size
      have HA2 := hide ((unhide HA).below ((Below.refl wr.heap.size wr).drew.trans bz))
      obtain ⟨hC2, hM2⟩ := hHeld
      clear hC hM hB hs HA bz xk
      cases hq : (d == r.v)
      · have hq2 : (d != r.v) = true := by simpa [bne] using hq
        have HT := hide ((unhide HIN false hq).2 rfl)
        go_wp2
        go_ret
        exact ⟨by rw [unhide HT]; rfl, hB2⟩
      · have hq2 : (d != r.v) = false := by simpa [bne] using hq
        have HI2 := hide ((unhide HIN true hq).1 rfl)
        go_wp2
        go_roundw
        case rel => exact ⟨k + 1, by omega, by first | rfl | go_num, HI2, HA2, hC2, hM2, hs2, hB2⟩
        case measure => simp [intOf]; omega
end Go.Proofs.Ytahloklmogkaeaa.StE
