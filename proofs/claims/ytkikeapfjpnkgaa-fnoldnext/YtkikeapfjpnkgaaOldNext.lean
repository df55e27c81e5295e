/-
  Each block is the eldest in turn: so it is in drawn blocks. The given statement, with no condition.
-/
import Derived.Test.YtkikeapfjpnkgaaWpM
import Derived.Test.YtkikeapfjpnkgaaPlE
import Derived.Test.YtkikeapfjpnkgaaDrP
import Derived.Test.YtkikeapfjpnkgaaFacts
import Derived.Lib.SmallJoins
namespace Go.Proofs.Ytkikeapfjpnkgaa.OldNext
open Go.ChangeShapes Go.WideShapes Go.ChangeAt Go.RowKit Go.Shelf Go.Joins OkA Big Fl ImplB ImplF ImplS ImplT ImplU SpecA SpecB SpecC SpecD SpecW SpecX SpecF SpecG SpecH FindP FindN FindO FindD ImplW ImplX Pick Draw ClA DrB PlB SpecO FindQ Wp Ws PlC PlD DrP FindD
open FlB (FsN)
open Facts (own laidOut)
set_option linter.unusedVariables false
set_option linter.unusedSimpArgs false
attribute [local go_sem ↓] Go.wp_at_zero Go.wp_at_succ

theorem ordR_iff (bs : List Bk) : ordR bs = true ↔ okB bs = true ∧ ordB bs = true := by unfold ordR; simp

/-- The eldest block wiped, and so many records written there. -/
structure Ch (bs : List Bk) (od : Nat) (n : Int) (i : Nat) (X : List Bk) : Prop where
  ord : ordR X = true
  cl : ∀ j, j < 4 → j ≠ od → X.getD j zBk = bs.getD j zBk
  cod : cN X od + i = 4
  lt : ∀ b ∈ X, ∀ p ∈ b.ps, p.s < n + i
  top : 0 < i → n + i - 1 ≤ mostN (X.getD od zBk).ps
theorem Ch.zero {bs : List Bk} {od : Nat} (h : ordR bs = true) (h0 : ∀ j < 4, cN bs j = 0) (hod : od < 4) (hw : wiO bs (od : Int) = true) : Ch bs od (mostB bs + 1) 0 (wiL bs od false) := by
  obtain ⟨hok, ho⟩ := (ordR_iff bs).1 h
  have hl := ok_len hok
  obtain ⟨e, hX, -, hk, -⟩ := wiR_yes (torn := false) hw
  simp only [Int.toNat_natCast] at hX hk
  refine ⟨(ordR_iff _).2 ⟨hX, ord_wi hok ho h0 od hod false⟩, fun j hj hne => ?_, ?_, fun b hb p hp => ?_, fun q => by omega⟩
  · unfold wiL; exact getD_ne bs od j _ hne
  · rw [cN_wi hl od hod, if_pos rfl, if_neg (by simp)]
  · have h1 := page_lt b hb p hp
    have h2 := mostB_wi bs od false
    omega
theorem Ch.fop {bs X : List Bk} {od : Nat} {n : Int} {i : Nat} (h : Ch bs od n i X) (h0 : ∀ j < 4, cN bs j = 0) (hod : od < 4) (hi : i < 4) : fopR X = ((od : Int), true) := by
  have hok := ((ordR_iff X).1 h.ord).1
  have hc := h.cod
  rcases fop_cases hok with ⟨_, q⟩ | ⟨k, hk, e, hp⟩
  · have := q od hod; omega
  · by_cases hko : k = od
    · rw [e, hko]
    · have : cN X k = cN bs k := by unfold cN; rw [h.cl k hk hko]
      have := h0 k hk
      omega
theorem Ch.step {bs X : List Bk} {od : Nat} {n : Int} {i : Nat} (h : Ch bs od n i X) (h0 : ∀ j < 4, cN bs j = 0) (hod : od < 4) (hi : i < 4) (hn1 : 1 ≤ n) (hn : n ≤ 596) : SpecD.wrB X (od : Int) 1 (n + i) (1 + i) 0 = true ∧ Ch bs od n (i + 1) (wrL X od (pgW false 1 (n + i) (1 + i) 0)) := by
  obtain ⟨hok, ho⟩ := (ordR_iff X).1 h.ord
  have hl := ok_len hok
  have hc := h.cod
  have hr : recB 1 (n + i) (1 + i) 0 = true := by simp [recB, numB, inB]; omega
  have hy := wr_open hok od hod (by omega) 1 (n + i) (1 + i) 0 h.lt hr
  obtain ⟨e, hX, -⟩ := wrR_yes (torn := false) hy.1
  simp only [Int.toNat_natCast] at hX
  have hu := (clean_eq hok od hod).2.2
  have h4p : (X.getD od zBk).ps.length = 4 := by rw [Ok2.getD_in X od (by omega)]; exact (ok_fours hok).at od (by omega)
  have htl : tailB (X.getD od zBk).ps = true := by rw [Ok2.getD_in X od (by omega)]; exact ok_tail hok od (by omega)
  have hg : (wrL X od (pgW false 1 (n + i) (1 + i) 0)).getD od zBk = ⟨(X.getD od zBk).ps.set (usedN (X.getD od zBk).ps) (pgW false 1 (n + i) (1 + i) 0), (X.getD od zBk).wn⟩ := by unfold wrL; exact getD_eq X od _ (by omega)
  refine ⟨hy.1, (ordR_iff _).2 ⟨hX, ord_wr hok ho od (h.fop h0 hod hi) hod 1 (n + i) (1 + i) 0 h.lt false⟩, fun j hj hne => ?_, ?_, fun b hb p hp => ?_, fun _ => ?_⟩
  · unfold wrL; rw [getD_ne X od j _ hne]; exact h.cl j hj hne
  · have h1 := (clean_eq hX od hod).2.2
    rw [hg] at h1
    have h2 := (Ok2.used_set _ h4p (pgW false 1 (n + i) (1 + i) 0) (Ok2.pgW_st _ _ _ _ _) (by omega) htl).2
    have h1' : cN (wrL X od (pgW false 1 (n + i) (1 + i) 0)) od + usedN ((X.getD od zBk).ps.set (usedN (X.getD od zBk).ps) (pgW false 1 (n + i) (1 + i) 0)) = 4 := h1
    omega
  · rcases List.mem_or_eq_of_mem_set hb with hb | rfl
    · have := h.lt b hb p hp; omega
    · rcases List.mem_or_eq_of_mem_set hp with hp | rfl
      · rw [Ok2.getD_in X od (by omega)] at hp
        have := h.lt _ (List.getElem_mem (by omega)) p hp; omega
      · show n + (i : Int) < n + ((i + 1 : Nat) : Int); omega
  · rw [hg]
    have hm : pgW false 1 (n + i) (1 + i) 0 ∈ (X.getD od zBk).ps.set (usedN (X.getD od zBk).ps) (pgW false 1 (n + i) (1 + i) 0) := mem_set_self (by omega)
    have := mostN_ge _ _ hm
    have e2 : (pgW false 1 (n + (i : Int)) (1 + i) 0).s = n + i := rfl
    rw [e2] at this
    show n + ((i + 1 : Nat) : Int) - 1 ≤ mostN ((X.getD od zBk).ps.set (usedN (X.getD od zBk).ps) (pgW false 1 (n + i) (1 + i) 0))
    omega
theorem Ch.end {bs X : List Bk} {od : Nat} (h : Ch bs od (mostB bs + 1) 4 X) (hod : od < 4) (hl : bs.length = 4) : oldR X ≠ (od : Int) ∧ ordR X = true := by
  have hok := ((ordR_iff X).1 h.ord).1
  refine ⟨?_, h.ord⟩
  rw [(old_ok hok).1]
  intro q
  have e : oldN X 3 = od := by omega
  obtain ⟨j, hj, hne⟩ : ∃ j, j < 4 ∧ j ≠ od := by
    by_cases h0 : od = 0
    · exact ⟨1, by omega, by omega⟩
    · exact ⟨0, by omega, by omega⟩
  have h1 := (old_spec X 3 j (by omega)).1
  rw [e, h.cl j hj hne] at h1
  have h2 := h.top (by omega)
  have h3 : mostN (bs.getD j zBk).ps ≤ mostB bs := by rw [Ok2.getD_in bs j (by omega)]; exact mostB_ge bs _ (List.getElem_mem _)
  omega

set_option maxRecDepth 100000 in
set_option maxHeartbeats 8000000 in
theorem walk (a0 : Option Addr) (len0 cap0 : Nat) (z0 : List Int) (w : World) (h0 : IsRow .u8 w a0 len0 cap0 z0) :
    Calls Try.prog 10 #[.slice a0 len0 cap0] w fun e w' => e = .returned (.bool true) ∧ Below w.heap.size w w' := by
  have HD := hide (drawOrder_any w a0 len0 cap0 z0 h0)
  clear h0
  go_enter Try.func10, Try.ntmps10
  by_cases hbig0 : 1048576 < (len0 : Int)
  · go_wp2
    go_ret
    exact ⟨rfl, Below.refl _ _⟩
  go_wp2_with fail
  refine (unhide HD).mono ?_
  rintro e w1 ⟨g, o, c, bs, rfl, F1, B⟩
  have h4 := F1.four
  have hp4 := hide F1.pgs
  have hf := F1.fs
  clear HD F1
  generalize (some ⟨g, o, none⟩ : Option Addr) = fa at *
  have HIO := hide (fun (w' : World) (hF : FsAt w' fa bs) => implOrder_any fa c bs w' hF (by omega))
  have HSO := hide (fun (w' : World) (hF : FsAt w' fa bs) => specOrder_any fa c bs w' hF (by omega))
  have HOP := hide (fun (w' : World) (hF : FsAt w' fa bs) => implOpen_any fa c bs w' hF (by omega))
  have HIN := hide (fun (w' : World) (hF : FsAt w' fa bs) => implNext_any fa c bs w' hF (by omega))
  have HOL := hide (fun (w' : World) (hF : FsAt w' fa bs) => implOld_any fa c bs w' hF (by omega))
  skip
  cases hoR : ordR bs
  · have HA := HIO
    have HB := HSO
    rw [hoR] at HA HB
    clear HIO HSO HOP HIN HOL
    go_wp2_with fail
    refine (unhide HA _ hf).mono ?_
    rintro e u1 ⟨rfl, b⟩
    replace hf := hf.below b
    replace B := B.trans (b.mono B.size)
    clear b
    go_wp2_with fail
    refine (unhide HB _ hf).mono ?_
    rintro e u2 ⟨rfl, b⟩
    replace hf := hf.below b
    replace B := B.trans (b.mono B.size)
    clear b
    go_wp2_with fail
    refine (unhide HB _ hf).mono ?_
    rintro e u3 ⟨rfl, b⟩
    replace hf := hf.below b
    replace B := B.trans (b.mono B.size)
    clear b
    go_wp2
    go_ret
    exact ⟨rfl, B⟩
  obtain ⟨hok, ho⟩ := (ordR_iff bs).1 hoR
  rw [hoR] at HIO HSO
  have hl4 := ok_len hok
  rw [hl4] at HIO HSO HOP HIN HOL
  rw [hl4]
  have HL4 := hide hl4
  clear hl4 h4
  go_wp2_with fail
  refine (unhide HIO _ hf).mono ?_
  rintro e u1 ⟨rfl, b⟩
  replace hf := hf.below b
  replace B := B.trans (b.mono B.size)
  clear b
  go_wp2_with fail
  refine (unhide HSO _ hf).mono ?_
  rintro e u2 ⟨rfl, b⟩
  replace hf := hf.below b
  replace B := B.trans (b.mono B.size)
  clear b
  clear HIO HSO
  obtain ⟨hol, hol4⟩ := old_ok hok
  have hnx := (next_ok hok).1
  have hm0 := mostB_0 bs
  rw [hol] at HOL
  rw [hnx] at HIN
  rcases fop_cases hok with ⟨e, h0⟩ | ⟨kb, hkb, e, hc⟩
  · rw [e] at HOP
    have HC0 := hide (fun (hw : wiO bs ((oldN bs 3 : Nat) : Int) = true) => Ch.zero hoR h0 hol4 hw)
    have HCS := hide (fun (X : List Bk) (i : Nat) (h : Ch bs (oldN bs 3) (mostB bs + 1) i X) (hi : i < 4) (hn : mostB bs + 1 ≤ 596) => h.step h0 hol4 hi (by omega) hn)
    have HCE := hide (fun (X : List Bk) (h : Ch bs (oldN bs 3) (mostB bs + 1) 4 X) => h.end hol4 (unhide HL4))
    have HWY := hide (fun (w' : World) (hF : FsAt w' fa bs) (hw : wiO bs ((oldN bs 3 : Nat) : Int) = true) => wipe_yes fa c 4 (oldN bs 3) false bs w' hF (unhide HL4) hw)
    have HWN := hide (fun (w' : World) (hF : FsAt w' fa bs) (hw : wiO bs ((oldN bs 3 : Nat) : Int) = false) => wipe_no fa c 4 (oldN bs 3) false bs w' hF (unhide HL4) hok hol4 hw)
    have hn0 : 1 ≤ mostB bs + 1 := by omega
    clear e hol hnx h0 hok ho hoR hm0
    generalize oldN bs 3 = od at *
    generalize mostB bs + 1 = n at *
    go_wp2_with fail
    refine (unhide HOP _ hf).mono ?_
    rintro e u3 ⟨rfl, b⟩
    replace hf := hf.below b
    replace B := B.trans (b.mono B.size)
    clear b
    go_wp2_with fail
    refine (unhide HIN _ hf).mono ?_
    rintro e u4 ⟨rfl, b⟩
    replace hf := hf.below b
    replace B := B.trans (b.mono B.size)
    clear b
    go_wp2_with fail
    refine (unhide HOL _ hf).mono ?_
    rintro e u5 ⟨rfl, b⟩
    replace hf := hf.below b
    replace B := B.trans (b.mono B.size)
    clear b
    clear HOP HIN HOL
    have hodi : (od : Int) < 4 := by omega
    by_cases hn6 : 596 < n
    · go_wp2
      go_ret
      exact ⟨rfl, B⟩
    by_cases hn1 : n = 1
    · have hnb : (n == 1) = true := by rw [hn1]; rfl
      clear hn1
      go_wp2
      go_ret
      exact ⟨rfl, B⟩
    have hnb : (n == 1) = false := by simpa using hn1
    have hn6' : n ≤ 596 := by omega
    cases hw : wiO bs (od : Int)
    · have HW := hide (fun (w' : World) (hF : FsAt w' fa bs) => unhide HWN w' hF hw)
      clear HWY HWN HC0 HCS HCE
      go_wp2_with fail
      refine (unhide HW _ hf).mono ?_
      rintro e u6 ⟨xa, xc, rfl, hx, b⟩
      replace hf := hf.below b
      replace B := B.trans (b.mono B.size)
      clear b
      go_wp2
      go_loopw [9, 10, 11] (fun x f i w' => x = .slice xa 4 xc ∧ f = .bool false ∧ i = .int .i64 0 ∧ Below w.heap.size w w') (fun _ _ _ _ => 0)
      case atStart => exact ⟨rfl, rfl, rfl, B⟩
      case round =>
        obtain ⟨rfl, rfl, rfl, B9⟩ := hrel
        go_wp2
        go_ret
        exact ⟨rfl, B9⟩
    · have HW := hide (fun (w' : World) (hF : FsAt w' fa bs) => unhide HWY w' hF hw)
      have HC1 := hide (unhide HC0 hw)
      clear HWY HWN HC0 hw
      go_wp2_with fail
      refine (unhide HW _ hf).mono ?_
      rintro e u6 ⟨xa, xc, rfl, hx, b⟩
      replace hf := hf.below b
      replace B := B.trans (b.mono B.size)
      clear b
      clear hf
      clear HW
      go_wp2
      go_loopw [9, 10, 11] (fun x f i w' => ∃ (j : Nat) (X : List Bk) (xa : Option Addr) (xc : Nat), j ≤ 4 ∧ x = .slice xa 4 xc ∧ f = .bool true ∧ i = .int .i64 j ∧ FsAt w' xa X ∧ Hid (Ch bs od n j X) ∧ Below w.heap.size w w') (fun _ _ i _ => 4 - (intOf i).toNat)
      case atStart => exact ⟨0, _, xa, xc, by omega, rfl, rfl, rfl, hx, HC1, B⟩
      case round =>
        clear hx HC1 B
        obtain ⟨j, X, ya, yc, hj, rfl, rfl, rfl, hx, HC, B⟩ := hrel
        by_cases h4 : j = 4
        · subst h4
          have hE := unhide HCE X (unhide HC)
          have hXok := ((ordR_iff X).1 hE.2).1
          have hXl := ok_len hXok
          have HO1 := hide (fun (w' : World) (hF : FsAt w' ya X) => implOld_any ya yc X w' hF (by omega))
          have HO2 := hide (fun (w' : World) (hF : FsAt w' ya X) => implOrder_any ya yc X w' hF (by omega))
          rw [hXl] at HO1 HO2
          rw [hE.2] at HO2
          have hne : (oldR X != (od : Int)) = true := by simpa using hE.1
          clear hE hXok hXl HC HCS HCE
          generalize oldR X = ox at *
          go_wp2_with fail
          refine (unhide HO1 _ hx).mono ?_
          rintro e u61 ⟨rfl, b⟩
          replace hx := hx.below b
          replace B := B.trans (b.mono B.size)
          clear b
          go_wp2_with fail
          refine (unhide HO2 _ hx).mono ?_
          rintro e u62 ⟨rfl, b⟩
          replace hx := hx.below b
          replace B := B.trans (b.mono B.size)
          clear b
          go_wp2
          go_ret
          exact ⟨rfl, B⟩
        have hj4 : j < 4 := by omega
        have hji : (j : Int) < 4 := by omega
        have hj0 : (0 : Int) ≤ (j : Int) := by omega
        have hwj : IntKind.i64.wrap ((j : Int) + 1) = (j : Int) + 1 := by rw [IntKind.wrap_i64] <;> omega
        have hwn : IntKind.i64.wrap (n + (j : Int)) = n + (j : Int) := by rw [IntKind.wrap_i64] <;> omega
        have hwa : IntKind.i64.wrap (1 + (j : Int)) = 1 + (j : Int) := by rw [IntKind.wrap_i64] <;> omega
        have hS := unhide HCS X j (unhide HC) hj4 hn6'
        have hXl := ok_len ((ordR_iff X).1 (unhide HC).ord).1
        have HWR := hide (fun (w' : World) (hF : FsAt w' ya X) => write_yes ya yc 4 od 1 (n + (j : Int)) (1 + (j : Int)) 0 false X w' hF hXl hS.1)
        have HC2 := hide hS.2
        clear hS hXl HC
        generalize wrL X od (pgW false 1 (n + (j : Int)) (1 + (j : Int)) 0) = Y at *
        go_wp2_with fail
        refine (unhide HWR _ hx).mono ?_
        rintro e u61 ⟨za, zc, rfl, hz, b⟩
        replace hx := hx.below b
        replace B := B.trans (b.mono B.size)
        clear b
        clear hx HWR
        go_wp2
        go_roundw
        case rel => exact ⟨j + 1, Y, za, zc, by omega, rfl, rfl, by first | rfl | go_num, hz, HC2, B⟩
        case measure => simp [intOf]; omega
  · rw [e] at HOP
    clear hc e hol hnx
    go_wp2_with fail
    refine (unhide HOP _ hf).mono ?_
    rintro e u3 ⟨rfl, b⟩
    replace hf := hf.below b
    replace B := B.trans (b.mono B.size)
    clear b
    go_wp2_with fail
    refine (unhide HIN _ hf).mono ?_
    rintro e u4 ⟨rfl, b⟩
    replace hf := hf.below b
    replace B := B.trans (b.mono B.size)
    clear b
    go_wp2_with fail
    refine (unhide HOL _ hf).mono ?_
    rintro e u5 ⟨rfl, b⟩
    replace hf := hf.below b
    replace B := B.trans (b.mono B.size)
    clear b
    go_wp2
    go_ret
    exact ⟨rfl, B⟩


set_option maxRecDepth 100000 in
theorem lifted (os : Os) (started : os.Started) (H : Type) (enc : TypeId × Value → H) :
    ReturnsInHanded {} Try.checked os 10 .any (Rows.fnOldNextSpec.pre6 enc Try.prog Try.f10 Rows.fnOldNextRow.domain false) (Rows.fnOldNextSpec.post enc Try.prog Try.f10 false true false false) := by
  refine returnsInHanded_of_change (C := Try.checked) own started (by kernel_rfl) Try.func10
    (ChangeSpec.witness6 (enc := enc) (C := Try.checked) false ⟨#[], #[.slice none 0 0], []⟩ 8 (by kernel_rfl) (by kernel_rfl) (by kernel_rfl) (by kernel_rfl)) ?_
  intro W base args ds gs before hval0 hW hcnd _
  have hval : ∀ (j : Nat) t v, Try.f10.params[j]? = some t → args[j]? = some v → Value.okWide Try.prog W .any base t v := hval0
  have hW' := hW
  obtain ⟨p, q, hA0, hV, rfl, hfz, hnd⟩ := hW
  have hA : DataW.TrodAll enc Try.prog W 0 (fun _ => true) true Try.f10.params.toList args.toList ds p := hA0
  rw [Try.params10] at hA hval
  obtain ⟨v0, vs0, d0, ds0, p0, q0, hargs, rfl, rfl, h0, r0⟩ := trodAll_cons hA
  obtain ⟨rfl, rfl, rfl⟩ := trodAll_nil r0
  obtain rfl : args = #[v0] := by cases args; simp_all
  obtain ⟨rfl, rfl⟩ := trodVars_none hV
  have kk0 := h0
  have lt0 : ∀ x ∈ p0, x.block < W.heap.size := by obtain ⟨m, hm⟩ := kk0; exact DataW.trod_lt m _ _ _ hm
  obtain ⟨a0, len0, cap0, rfl⟩ := okWide_slice Try.underlying22 (hval 0 22 v0 rfl rfl)
  obtain ⟨z0, w0⟩ : ∃ zs, IsRow .u8 W a0 len0 cap0 zs := by
    obtain ⟨fuel, hf⟩ := h0
    rcases open_ints Try.underlying22 Try.underlying5 (by kernel_rfl) hf with ⟨hcs, _⟩ | ⟨x, l, c, zs, hcs, _, hl, hm, hz, _, hcell, hwz⟩
    · simp [Value.cells] at hcs
      obtain ⟨rfl, rfl, rfl⟩ := hcs
      exact ⟨[], .inl ⟨rfl, rfl, rfl, rfl⟩⟩
    · simp [Value.cells] at hcs
      obtain ⟨rfl, rfl, rfl⟩ := hcs
      exact ⟨zs, .inr ⟨_, rfl, hl, hm, by simpa using hz, hcell, hwz⟩⟩
  clear hA0
  refine (walk a0 len0 cap0 z0 W w0).mono fun e W' ⟨he, bel⟩ => ?_
  subst he
  exact ⟨_, rfl, _, _, _, [], _, [], hW', trodAll_mk1 (shut_bool Try.underlying4 _), (trodAll_cons_mk (Below.trod laidOut (by kernel_rfl) (of_decide_eq_true (by kernel_rfl)) kk0 bel lt0) trodAll_mk0), rfl, bel.frame _, fun h => by cases h⟩

set_option maxRecDepth 100000 in
theorem facts : joinedFacts Try.prog 10 Try.f10 Rows.fnOldNextSpec Rows.fnOldNextRow = true := by
  unfold joinedFacts
  refine Facts.and_t ?_ (by as_aux_lemma => kernel_rfl)
  refine Facts.and_t ?_ (by as_aux_lemma => kernel_rfl)
  refine Facts.and_t ?_ (by as_aux_lemma => kernel_rfl)
  refine Facts.and_t ?_ (by as_aux_lemma => kernel_rfl)
  refine Facts.and_t ?_ (by show (Try.prog.make == some Make.cut) = true; rw [Facts.made]; rfl)
  refine Facts.and_t ?_ (by show (false == Try.prog.liftsFinal) = true; rw [Facts.lifts]; rfl)
  refine Facts.and_t ?_ (Facts.enters)
  refine Facts.and_t ?_ (Facts.heard)
  refine Facts.and_t ?_ (rfl)
  refine Facts.and_t ?_ (by show (true == Try.prog.plainKeys) = true; rw [Facts.keys]; rfl)
  refine Facts.and_t ?_ (by as_aux_lemma => kernel_rfl)
  refine Facts.and_t ?_ (by as_aux_lemma => kernel_rfl)
  refine Facts.and_t ?_ (by as_aux_lemma => kernel_rfl)
  refine Facts.and_t ?_ (by as_aux_lemma => kernel_rfl)
  refine Facts.and_t ?_ (by as_aux_lemma => kernel_rfl)
  refine Facts.and_t ?_ (by as_aux_lemma => kernel_rfl)
  refine Facts.and_t ?_ (by as_aux_lemma => kernel_rfl)
  refine Facts.and_t ?_ (by as_aux_lemma => kernel_rfl)
  refine Facts.and_t ?_ (by as_aux_lemma => kernel_rfl)
  refine Facts.and_t ?_ (by as_aux_lemma => kernel_rfl)
  refine Facts.and_t ?_ (by as_aux_lemma => kernel_rfl)
  refine Facts.and_t ?_ (by as_aux_lemma => kernel_rfl)
  refine Facts.and_t ?_ (by as_aux_lemma => kernel_rfl)
  refine Facts.and_t ?_ (by as_aux_lemma => kernel_rfl)
  refine Facts.and_t ?_ (by as_aux_lemma => kernel_rfl)
  refine Facts.and_t ?_ (by as_aux_lemma => kernel_rfl)
  refine Facts.and_t ?_ (by as_aux_lemma => kernel_rfl)
  refine Facts.and_t ?_ (by as_aux_lemma => kernel_rfl)
  refine Facts.and_t ?_ (by as_aux_lemma => kernel_rfl)
  refine Facts.and_t ?_ (Facts.rowed)
  refine Facts.and_t ?_ (Facts.laidOut)
  kernel_rfl

theorem over : Rows.fnOldNextRow.holds Try.pinned (OpenSpec.ofChange Rows.fnOldNextSpec) :=
  OpenClaim.holds_of_wide 10 Try.f10 rfl rfl rfl rfl rfl rfl rfl ⟨rfl, rfl, rfl, rfl, rfl⟩ rfl rfl rfl rfl rfl (by kernel_rfl) Try.func10 facts
    (of_decide_eq_true (by kernel_rfl)) (by unfold Func.isWrapper; first | (rw [if_pos (by decide +kernel)]; kernel_rfl) | (rw [if_neg (by decide +kernel)]; exact ⟨rfl, rfl⟩))
    (fun os started H enc _ => (lifted os started H enc))

end Go.Proofs.Ytkikeapfjpnkgaa.OldNext
namespace Go.Proofs.Ytkikeapfjpnkgaa
theorem fnOldNext_holds : Rows.FnOldNextSaid := OldNext.over
end Go.Proofs.Ytkikeapfjpnkgaa
