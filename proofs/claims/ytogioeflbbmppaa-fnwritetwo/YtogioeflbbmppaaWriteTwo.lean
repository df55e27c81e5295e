/-
  On two blocks it does not matter which is written first: so it does not in drawn blocks. The given statement, with no condition.
-/
import Derived.Test.YtogioeflbbmppaaWs
import Derived.Test.YtogioeflbbmppaaFacts
import Derived.Lib.SmallJoins
namespace Go.Proofs.Ytogioeflbbmppaa.WriteTwo
open Go.ChangeShapes Go.WideShapes Go.ChangeAt Go.RowKit Go.Shelf Go.Joins OkA Big Fl ImplB ImplF ImplS ImplT ImplU SpecA SpecB SpecC SpecD SpecW SpecX SpecF SpecG SpecH FindP FindN FindO FindD ImplW ImplX Pick Draw ClA DrB PlB ImplL SpecY LawsE Lq Lo Wp DrW Ws
open FlB (FsN)
open Facts (own laidOut)
set_option linter.unusedVariables false
set_option linter.unusedSimpArgs false
attribute [local go_sem ↓] Go.wp_at_zero Go.wp_at_succ

theorem two_same {bs : List Bk} {k m : Nat} {rk rs ra rv : Int} {torn : Bool} (h : SpecD.wrB bs (k : Int) rk rs ra rv = true) (hm : m < 4) (hk : k < 4) (hkm : k ≠ m) (hs : rs ≠ 600) :
    SpecD.wrB (wrL bs k (pgW torn rk rs ra rv)) (m : Int) 2 600 2 3 = SpecD.wrB bs (m : Int) 2 600 2 3 := by
  obtain ⟨-, hX, hok, -, -, -, hr, hn⟩ := wrR_yes (torn := torn) h
  simp only [Int.toNat_natCast] at hX hn
  have hu := (Ok2.wrN_no hn).1
  have hq : recB 2 600 2 3 = true := by decide
  rw [Bool.eq_iff_iff, wrB_iff hX m hm _ _ _ _ hq, wrB_iff hok m hm _ _ _ _ hq]
  have e1 : (wrL bs k (pgW torn rk rs ra rv)).getD m zBk = bs.getD m zBk := getD_ne _ _ _ _ (fun e => hkm e.symm)
  have e2 : hasB (wrL bs k (pgW torn rk rs ra rv)) 600 = hasB bs 600 := by
    rw [Bool.eq_iff_iff, has_wr hok k hk hu, seq_pgW]
    exact ⟨fun h => h.elim (fun h => absurd h.2 hs) id, .inr⟩
  rw [e1, e2]
theorem two_last {bs : List Bk} {k m : Nat} {rk rs ra rv : Int} (h : SpecD.wrB bs (k : Int) rk rs ra rv = true) (hy : SpecD.wrB bs (m : Int) 2 600 2 3 = true) (hk : k < 4) (hkm : k ≠ m) (hs : rs ≠ 600) :
    SpecD.wrB (wrL bs m (pgW false 2 600 2 3)) (k : Int) rk rs ra rv = true := by
  obtain ⟨-, -, hok, -, -, -, hr, hn⟩ := wrR_yes (torn := false) h
  obtain ⟨-, hY, -, hm, -, -, -, hnm⟩ := wrR_yes (torn := false) hy
  simp only [Int.toNat_natCast] at hn hY hm hnm
  obtain ⟨hu, hh⟩ := Ok2.wrN_no hn
  obtain ⟨hum, hhm⟩ := Ok2.wrN_no hnm
  rw [wrB_iff hY k hk _ _ _ _ hr]
  have e1 : (wrL bs m (pgW false 2 600 2 3)).getD k zBk = bs.getD k zBk := getD_ne _ _ _ _ hkm
  rw [e1]
  refine ⟨hu, ?_⟩
  cases hb : hasB (wrL bs m (pgW false 2 600 2 3)) rs
  · rfl
  · rw [has_wr hok m hm hum, seq_pgW] at hb
    rcases hb with hb | hb
    · exact absurd hb.2.symm hs
    · rw [hh] at hb; exact absurd hb (by simp)

set_option maxRecDepth 100000 in
set_option maxHeartbeats 8000000 in
theorem walk (a0 : Option Addr) (len0 cap0 : Nat) (z0 : List Int) (a1 : Option Addr) (len1 cap1 : Nat) (z1 : List Int) (w : World) (h0 : IsRow .u8 w a0 len0 cap0 z0) (h1 : IsRow .u8 w a1 len1 cap1 z1) :
    Calls Try.prog 8 #[.slice a0 len0 cap0, .slice a1 len1 cap1] w fun e w' => e = .returned (.bool true) ∧ Below w.heap.size w w' := by
  have HD := hide (drawWrite_any w a0 len0 cap0 z0 h0)
  clear h0
  clear h1
  go_enter Try.func8, Try.ntmps8
  by_cases hbig0 : 1048576 < (len0 : Int)
  · go_wp2
    go_ret
    exact ⟨rfl, Below.refl _ _⟩
  by_cases hbig1 : 1048576 < (len1 : Int)
  · go_wp2
    go_ret
    exact ⟨rfl, Below.refl _ _⟩
  go_wp2_with fail
  refine (unhide HD).mono ?_
  rintro e w1 ⟨g, o, c, bs, k, rk, rs, ra, rv, torn, rfl, F1, k0, k7, B⟩
  have h4 := F1.four
  have hp4 := hide F1.pgs
  have hf := F1.fs
  clear HD F1
  have b : Below w1.heap.size w1 (w1.alloc (.cells #[.int .i64 rk, .int .i64 rs, .int .i64 ra, .int .i64 rv] 25)) := (Below.refl _ _).alloc (Nat.le_refl _) _
  have cR := CsAt.new w1 [.int .i64 rk, .int .i64 rs, .int .i64 ra, .int .i64 rv] 25
  replace hf := FsAt.below hf b
  replace B := B.trans (b.mono B.size)
  clear b
  generalize hfa : (some ⟨g, o, none⟩ : Option Addr) = fa at *
  have HSW := hide (fun (w' : World) (hF : FsAt w' fa bs) => specWrite_any fa c k rk rs ra rv torn  bs w' hF (by omega))
  have HIW := hide (fun (w' : World) (hF : FsAt w' fa bs) => implWrite_any fa c k rk rs ra rv torn  bs w' hF (by omega))
  have HRL : Hid ((wrR bs k rk rs ra rv torn).length ≤ 4) := wrR_len h4
  have HRP : Hid (∀ b ∈ wrR bs k rk rs ra rv torn, b.ps.length ≤ 4) := wrR_pgs (unhide hp4)
  generalize hR : wrR bs k rk rs ra rv torn = R at *
  generalize hO : SpecD.wrB bs k rk rs ra rv = ok at *
  have HR := hide hR
  have HO := hide hO
  clear hR hO
  have hoo : (ok != ok) = false := by simp
  have hoe : (ok == ok) = true := by simp
  have r0 := CsAt.cell cR 0 _ rfl
  have r1 := CsAt.cell cR 1 _ rfl
  have r2 := CsAt.cell cR 2 _ rfl
  have r3 := CsAt.cell cR 3 _ rfl
  go_wp2_with fail
  generalize w1.alloc (.cells #[.int .i64 rk, .int .i64 rs, .int .i64 ra, .int .i64 rv] 25) = wB at *
  generalize w1.heap.size = rb at *
  refine (unhide HSW _ hf).mono ?_
  rintro e wC ⟨v, rfl, X, b⟩
  clear r0 r1 r2 r3
  replace hf := FsAt.below hf b
  replace cR := CsAt.below cR b (CsAt.lt cR (by simp))
  replace B := B.trans (b.mono B.size)
  clear b
  obtain ⟨va, vc, rfl, hv⟩ := Own.NewFs.form X
  clear X
  have r0 := CsAt.cell cR 0 _ rfl
  have r1 := CsAt.cell cR 1 _ rfl
  have r2 := CsAt.cell cR 2 _ rfl
  have r3 := CsAt.cell cR 3 _ rfl
  go_wp2_with fail
  refine (unhide HIW _ hf).mono ?_
  rintro e u43 ⟨v, rfl, X, b⟩
  clear r0 r1 r2 r3
  replace hf := FsAt.below hf b
  replace hv := FsAt.below hv b
  replace cR := CsAt.below cR b (CsAt.lt cR (by simp))
  replace B := B.trans (b.mono B.size)
  clear b
  obtain ⟨xa, xc, rfl, hx⟩ := Own.NewFs.form X
  clear X
  go_wp2_with fail
  refine (lqFlash_same xa va xc vc R _ hx hv (by have := unhide HRL; omega) (fun b hb => by have := unhide HRP b hb; omega)).mono ?_
  rintro e wE ⟨rfl, b⟩
  replace hf := FsAt.below hf b
  replace hv := FsAt.below hv b
  replace hx := FsAt.below hx b
  replace cR := CsAt.below cR b (CsAt.lt cR (by simp))
  replace B := B.trans (b.mono B.size)
  clear b
  cases hok : ok
  · go_wp2_with fail
    refine (lqFlash_same xa va xc vc R _ hx hv (by have := unhide HRL; omega) (fun b hb => by have := unhide HRP b hb; omega)).mono ?_
    rintro e u42 ⟨rfl, b⟩
    replace hf := FsAt.below hf b
    replace hv := FsAt.below hv b
    replace hx := FsAt.below hx b
    replace cR := CsAt.below cR b (CsAt.lt cR (by simp))
    replace B := B.trans (b.mono B.size)
    clear b
    go_wp2
    go_ret
    exact ⟨rfl, B⟩
  subst hok
  obtain ⟨-, hX, hok, hkt, k0', k3, hrr, hwn⟩ := wrR_yes (torn := torn) (unhide HO)
  by_cases h6 : rs = 600
  · have h6b : (rs == 600) = true := by simpa using h6
    have r0 := CsAt.cell cR 0 _ rfl
    have r1 := CsAt.cell cR 1 _ rfl
    have r2 := CsAt.cell cR 2 _ rfl
    have r3 := CsAt.cell cR 3 _ rfl
    go_wp2_with fail
    refine (lqFlash_same xa va xc vc R _ hx hv (by have := unhide HRL; omega) (fun b hb => by have := unhide HRP b hb; omega)).mono ?_
    rintro e u42 ⟨rfl, b⟩
    replace hf := FsAt.below hf b
    replace hv := FsAt.below hv b
    replace hx := FsAt.below hx b
    replace cR := CsAt.below cR b (CsAt.lt cR (by simp))
    replace B := B.trans (b.mono B.size)
    clear b
    go_wp2
    go_ret
    exact ⟨rfl, B⟩
  have h6b : (rs == 600) = false := by simpa using h6
  have HH6 := hide h6
  clear h6 hv hoo hoe
  obtain ⟨kn, rfl⟩ := Int.eq_ofNat_of_zero_le k0
  simp only [Int.toNat_natCast] at hX hkt hwn
  have hO := unhide HO
  have hRw : R = wrL bs kn (pgW torn rk rs ra rv) := by have := (wrR_yes (torn := torn) hO).1; simp only [Int.toNat_natCast] at this; rw [← unhide HR, this]
  subst hRw
  obtain ⟨m, hm, hm4, hmk⟩ : ∃ m : Nat, ((kn : Int) + 1 + (len1 : Int) % 3) % 4 = (m : Int) ∧ m < 4 ∧ kn ≠ m := ⟨(kn + 1 + len1 % 3) % 4, by omega, by omega, by omega⟩
  have hlX : (wrL bs kn (pgW torn rk rs ra rv)).length = bs.length := by simp [wrL]
  have HLX := hide hlX
  rw [hlX]
  have HX1 := hide hX
  have HS := hide (two_same (torn := torn) (m := m) hO hm4 hkt hmk (unhide HH6))
  have HL2 := hide (fun h => two_last (m := m) hO h hkt hmk (unhide HH6))
  have HCM := hide (wrL_comm bs kn m (pgW torn rk rs ra rv) (pgW false 2 600 2 3) hmk)
  have hlb := hide (ok_len hok)
  clear hlX hX hwn
  have hk3 : (kn : Int) < 4 := by omega
  have r1 := CsAt.cell cR 1 _ rfl
  have b : Below wE.heap.size wE (wE.alloc (.cells #[.int .i64 2, .int .i64 600, .int .i64 2, .int .i64 3] 25)) := (Below.refl _ _).alloc (Nat.le_refl _) _
  have cQ := CsAt.new wE [.int .i64 2, .int .i64 600, .int .i64 2, .int .i64 3] 25
  replace hf := FsAt.below hf b
  replace hx := FsAt.below hx b
  replace cR := CsAt.below cR b (CsAt.lt cR (by simp))
  replace B := B.trans (b.mono B.size)
  clear b
  have q0 := CsAt.cell cQ 0 _ rfl
  have q1 := CsAt.cell cQ 1 _ rfl
  have q2 := CsAt.cell cQ 2 _ rfl
  have q3 := CsAt.cell cQ 3 _ rfl
  cases h1 : SpecD.wrB bs (m : Int) 2 600 2 3
  · have h2 := unhide HS
    rw [h1] at h2
    have HA := hide (fun (w' : World) (hF : FsAt w' fa bs) => implWrite_any fa c (m : Int) 2 600 2 3 false bs w' hF (by omega))
    rw [h1] at HA
    have HB := hide (fun (w' : World) (hF : FsAt w' xa (wrL bs kn (pgW torn rk rs ra rv))) => implWrite_any xa xc (m : Int) 2 600 2 3 false _ w' hF (by have := unhide HLX; have := unhide hlb; omega))
    rw [h2, unhide HLX] at HB
    go_wp2_with fail
    clear r1
    generalize wE.alloc (.cells #[.int .i64 2, .int .i64 600, .int .i64 2, .int .i64 3] 25) = wF at *
    generalize wE.heap.size = qb at *
    refine (unhide HA _ hf).mono ?_
    rintro e wG ⟨y, rfl, -, b⟩
    clear q0 q1 q2 q3
    replace hf := FsAt.below hf b
    replace hx := FsAt.below hx b
    replace cR := CsAt.below cR b (CsAt.lt cR (by simp))
    replace cQ := CsAt.below cQ b (CsAt.lt cQ (by simp))
    replace B := B.trans (b.mono B.size)
    clear b
    have q0 := CsAt.cell cQ 0 _ rfl
    have q1 := CsAt.cell cQ 1 _ rfl
    have q2 := CsAt.cell cQ 2 _ rfl
    have q3 := CsAt.cell cQ 3 _ rfl
    go_wp2_with fail
    refine (unhide HB _ hx).mono ?_
    rintro e wH ⟨y2, rfl, -, b⟩
    clear q0 q1 q2 q3
    replace hf := FsAt.below hf b
    replace hx := FsAt.below hx b
    replace cR := CsAt.below cR b (CsAt.lt cR (by simp))
    replace cQ := CsAt.below cQ b (CsAt.lt cQ (by simp))
    replace B := B.trans (b.mono B.size)
    clear b
    go_wp2
    go_ret
    exact ⟨rfl, B⟩
  · have h2 := unhide HS
    rw [h1] at h2
    have h3 := unhide HL2 h1
    have hlY : (wrL bs m (pgW false 2 600 2 3)).length = bs.length := by simp [wrL]
    have HLY := hide hlY
    clear hlY
    have HA := hide (fun (w' : World) (hF : FsAt w' fa bs) => write_yes fa c bs.length m 2 600 2 3 false bs w' hF rfl h1)
    have HB := hide (fun (w' : World) (hF : FsAt w' xa (wrL bs kn (pgW torn rk rs ra rv))) => write_yes xa xc bs.length m 2 600 2 3 false _ w' hF (unhide HLX) h2)
    rw [unhide HCM] at HB
    go_wp2_with fail
    clear r1
    generalize wE.alloc (.cells #[.int .i64 2, .int .i64 600, .int .i64 2, .int .i64 3] 25) = wF at *
    generalize wE.heap.size = qb at *
    refine (unhide HA _ hf).mono ?_
    rintro e wG ⟨ya, yc, rfl, hy, b⟩
    clear q0 q1 q2 q3
    replace hf := FsAt.below hf b
    replace hx := FsAt.below hx b
    replace cR := CsAt.below cR b (CsAt.lt cR (by simp))
    replace cQ := CsAt.below cQ b (CsAt.lt cQ (by simp))
    replace B := B.trans (b.mono B.size)
    clear b
    have q0 := CsAt.cell cQ 0 _ rfl
    have q1 := CsAt.cell cQ 1 _ rfl
    have q2 := CsAt.cell cQ 2 _ rfl
    have q3 := CsAt.cell cQ 3 _ rfl
    go_wp2_with fail
    refine (unhide HB _ hx).mono ?_
    rintro e wH ⟨aa, ac, rfl, ha, b⟩
    clear q0 q1 q2 q3
    replace hf := FsAt.below hf b
    replace hx := FsAt.below hx b
    replace hy := FsAt.below hy b
    replace cR := CsAt.below cR b (CsAt.lt cR (by simp))
    replace cQ := CsAt.below cQ b (CsAt.lt cQ (by simp))
    replace B := B.trans (b.mono B.size)
    clear b
    have r0 := CsAt.cell cR 0 _ rfl
    have r1 := CsAt.cell cR 1 _ rfl
    have r2 := CsAt.cell cR 2 _ rfl
    have r3 := CsAt.cell cR 3 _ rfl
    go_wp2_with fail
    refine (write_yes ya yc bs.length kn rk rs ra rv torn _ _ hy (unhide HLY) h3).mono ?_
    rintro e wI ⟨ba, bc, rfl, hb, b⟩
    clear r0 r1 r2 r3
    replace ha := FsAt.below ha b
    replace B := B.trans (b.mono B.size)
    clear b
    have HLQ := hide (lqFlash_same aa ba ac bc _ _ ha hb (by simp [wrL]; have := unhide hlb; omega) (fun b hb => by
      have hZ := (wrR_yes (torn := torn) h3).2.1
      simp only [Int.toNat_natCast] at hZ
      have := (ok_fours hZ) b hb
      omega))
    rw [show (wrL (wrL bs m (pgW false 2 600 2 3)) kn (pgW torn rk rs ra rv)).length = bs.length by simp [wrL]] at HLQ
    clear h1 h2 h3 hx hy hf ha hb
    go_wp2_with fail
    refine (unhide HLQ).mono ?_
    rintro e wJ ⟨rfl, b⟩
    replace B := B.trans (b.mono B.size)
    clear b
    go_wp2
    go_ret
    exact ⟨rfl, B⟩


set_option maxRecDepth 100000 in
theorem lifted (os : Os) (started : os.Started) (H : Type) (enc : TypeId × Value → H) :
    ReturnsInHanded {} Try.checked os 8 .any (Rows.fnWriteTwoSpec.pre6 enc Try.prog Try.f8 Rows.fnWriteTwoRow.domain false) (Rows.fnWriteTwoSpec.post enc Try.prog Try.f8 false true false false) := by
  refine returnsInHanded_of_change (C := Try.checked) own started (by kernel_rfl) Try.func8
    (ChangeSpec.witness6 (enc := enc) (C := Try.checked) false ⟨#[], #[.slice none 0 0, .slice none 0 0], []⟩ 8 (by kernel_rfl) (by kernel_rfl) (by kernel_rfl) (by kernel_rfl)) ?_
  intro W base args ds gs before hval0 hW hcnd _
  have hval : ∀ (j : Nat) t v, Try.f8.params[j]? = some t → args[j]? = some v → Value.okWide Try.prog W .any base t v := hval0
  have hW' := hW
  obtain ⟨p, q, hA0, hV, rfl, hfz, hnd⟩ := hW
  have hA : DataW.TrodAll enc Try.prog W 0 (fun _ => true) true Try.f8.params.toList args.toList ds p := hA0
  rw [Try.params8] at hA hval
  obtain ⟨v0, vs0, d0, ds0, p0, q0, hargs, rfl, rfl, h0, r0⟩ := trodAll_cons hA
  obtain ⟨v1, vs1, d1, ds1, p1, q1, rfl, rfl, rfl, h1, r1⟩ := trodAll_cons r0
  obtain ⟨rfl, rfl, rfl⟩ := trodAll_nil r1
  obtain rfl : args = #[v0, v1] := by cases args; simp_all
  obtain ⟨rfl, rfl⟩ := trodVars_none hV
  have kk0 := h0
  have lt0 : ∀ x ∈ p0, x.block < W.heap.size := by obtain ⟨m, hm⟩ := kk0; exact DataW.trod_lt m _ _ _ hm
  obtain ⟨a0, len0, cap0, rfl⟩ := okWide_slice Try.underlying22 (hval 0 22 v0 rfl rfl)
  obtain ⟨z0, w0⟩ : ∃ zs, IsRow .u8 W a0 len0 cap0 zs := by
    obtain ⟨fuel, hf⟩ := h0
    rcases open_ints Try.underlying22 Try.underlying5 (by kernel_rfl) hf with ⟨hcs, _⟩ | ⟨x, l, c, zs, hcs, _, hl, hm, hz, _, hcell, hwz⟩
    · simp [Value.cells] at hcs
      obtain ⟨rfl, rfl, rfl⟩ := hcs
      exact ⟨[], .inl ⟨rfl, rfl, rfl, rfl⟩⟩
    · simp [Value.cells] at hcs
      obtain ⟨rfl, rfl, rfl⟩ := hcs
      exact ⟨zs, .inr ⟨_, rfl, hl, hm, by simpa using hz, hcell, hwz⟩⟩
  have kk1 := h1
  have lt1 : ∀ x ∈ p1, x.block < W.heap.size := by obtain ⟨m, hm⟩ := kk1; exact DataW.trod_lt m _ _ _ hm
  obtain ⟨a1, len1, cap1, rfl⟩ := okWide_slice Try.underlying22 (hval 1 22 v1 rfl rfl)
  obtain ⟨z1, w1⟩ : ∃ zs, IsRow .u8 W a1 len1 cap1 zs := by
    obtain ⟨fuel, hf⟩ := h1
    rcases open_ints Try.underlying22 Try.underlying5 (by kernel_rfl) hf with ⟨hcs, _⟩ | ⟨x, l, c, zs, hcs, _, hl, hm, hz, _, hcell, hwz⟩
    · simp [Value.cells] at hcs
      obtain ⟨rfl, rfl, rfl⟩ := hcs
      exact ⟨[], .inl ⟨rfl, rfl, rfl, rfl⟩⟩
    · simp [Value.cells] at hcs
      obtain ⟨rfl, rfl, rfl⟩ := hcs
      exact ⟨zs, .inr ⟨_, rfl, hl, hm, by simpa using hz, hcell, hwz⟩⟩
  clear hA0
  refine (walk a0 len0 cap0 z0 a1 len1 cap1 z1 W w0 w1).mono fun e W' ⟨he, bel⟩ => ?_
  subst he
  exact ⟨_, rfl, _, _, _, [], _, [], hW', trodAll_mk1 (shut_bool Try.underlying4 _), (trodAll_cons_mk (Below.trod laidOut (by kernel_rfl) (of_decide_eq_true (by kernel_rfl)) kk0 bel lt0) (trodAll_cons_mk (Below.trod laidOut (by kernel_rfl) (of_decide_eq_true (by kernel_rfl)) kk1 bel lt1) trodAll_mk0)), rfl, bel.frame _, fun h => by cases h⟩

set_option maxRecDepth 100000 in
theorem facts : joinedFacts Try.prog 8 Try.f8 Rows.fnWriteTwoSpec Rows.fnWriteTwoRow = true := by
  unfold joinedFacts
  refine Facts.and_t ?_ (by as_aux_lemma => kernel_rfl)
  refine Facts.and_t ?_ (by as_aux_lemma => kernel_rfl)
  refine Facts.and_t ?_ (by as_aux_lemma => kernel_rfl)
  refine Facts.and_t ?_ (by as_aux_lemma => kernel_rfl)
  refine Facts.and_t ?_ (by show (Try.prog.make == some Make.cut) = true; rw [Facts.made]; rfl)
  refine Facts.and_t ?_ (by show (false == Try.prog.liftsFinal) = true; rw [Facts.lifts]; rfl)
  refine Facts.and_t ?_ (Facts.enters)
  refine Facts.and_t ?_ (Facts.heard)
  refine Facts.and_t ?_ (rfl)
  refine Facts.and_t ?_ (by show (true == Try.prog.plainKeys) = true; rw [Facts.keys]; rfl)
  refine Facts.and_t ?_ (by as_aux_lemma => kernel_rfl)
  refine Facts.and_t ?_ (by as_aux_lemma => kernel_rfl)
  refine Facts.and_t ?_ (by as_aux_lemma => kernel_rfl)
  refine Facts.and_t ?_ (by as_aux_lemma => kernel_rfl)
  refine Facts.and_t ?_ (by as_aux_lemma => kernel_rfl)
  refine Facts.and_t ?_ (by as_aux_lemma => kernel_rfl)
  refine Facts.and_t ?_ (by as_aux_lemma => kernel_rfl)
  refine Facts.and_t ?_ (by as_aux_lemma => kernel_rfl)
  refine Facts.and_t ?_ (by as_aux_lemma => kernel_rfl)
  refine Facts.and_t ?_ (by as_aux_lemma => kernel_rfl)
  refine Facts.and_t ?_ (by as_aux_lemma => kernel_rfl)
  refine Facts.and_t ?_ (by as_aux_lemma => kernel_rfl)
  refine Facts.and_t ?_ (by as_aux_lemma => kernel_rfl)
  refine Facts.and_t ?_ (by as_aux_lemma => kernel_rfl)
  refine Facts.and_t ?_ (by as_aux_lemma => kernel_rfl)
  refine Facts.and_t ?_ (by as_aux_lemma => kernel_rfl)
  refine Facts.and_t ?_ (by as_aux_lemma => kernel_rfl)
  refine Facts.and_t ?_ (by as_aux_lemma => kernel_rfl)
  refine Facts.and_t ?_ (by as_aux_lemma => kernel_rfl)
  refine Facts.and_t ?_ (Facts.rowed)
  refine Facts.and_t ?_ (Facts.laidOut)
  kernel_rfl

theorem over : Rows.fnWriteTwoRow.holds Try.pinned (OpenSpec.ofChange Rows.fnWriteTwoSpec) :=
  OpenClaim.holds_of_wide 8 Try.f8 rfl rfl rfl rfl rfl rfl rfl ⟨rfl, rfl, rfl, rfl, rfl⟩ rfl rfl rfl rfl rfl (by kernel_rfl) Try.func8 facts
    (of_decide_eq_true (by kernel_rfl)) (by unfold Func.isWrapper; first | (rw [if_pos (by decide +kernel)]; kernel_rfl) | (rw [if_neg (by decide +kernel)]; exact ⟨rfl, rfl⟩))
    (fun os started H enc _ => lifted os started H enc)

end Go.Proofs.Ytogioeflbbmppaa.WriteTwo
namespace Go.Proofs.Ytogioeflbbmppaa
theorem fnWriteTwo_holds : Rows.FnWriteTwoSaid := WriteTwo.over
end Go.Proofs.Ytogioeflbbmppaa
