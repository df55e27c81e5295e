/-
  What is written last is the last: so it is in drawn blocks. The given statement, with no condition.
-/
import Derived.Test.YtogioeflbbmppaaWs
import Derived.Test.YtogioeflbbmppaaPlC
import Derived.Test.YtogioeflbbmppaaFacts
import Derived.Lib.SmallJoins
namespace Go.Proofs.Ytogioeflbbmppaa.LastWrite
open Go.ChangeShapes Go.WideShapes Go.ChangeAt Go.RowKit Go.Shelf Go.Joins OkA Big Fl ImplB ImplF ImplS ImplT ImplU SpecA SpecB SpecC SpecD SpecW SpecX SpecF SpecG SpecH FindP FindN FindO FindD ImplW ImplX Pick Draw ClA DrB PlB ImplL Pl FindL Wp Ws PlC
open FlB (FsN)
open Facts (own laidOut)
set_option linter.unusedVariables false
set_option linter.unusedSimpArgs false
attribute [local go_sem ↓] Go.wp_at_zero Go.wp_at_succ

theorem implLast_4 (a : Option Addr) (cap : Nat) (addr : Int) (bs : List Bk) (w : World) (hf : FsAt w a bs) (n : Nat) (hn : bs.length = n) (hm : bs.length ≤ 9223372036854775807) (r : Rc) (o : Bool) (hr : flR bs addr = r) (ho : flO bs addr = o) :
    Calls Try.prog 41 #[.slice a n cap, .int .i64 addr] w fun e w' => e = .returned (.tuple #[.agg #[.int .i64 r.k, .int .i64 r.s, .int .i64 r.a, .int .i64 r.v], .bool o]) ∧ Below w.heap.size w w' := by
  subst hr ho hn
  exact implLast_any a cap addr bs w hf hm
theorem specLast_4 (a : Option Addr) (cap : Nat) (addr : Int) (bs : List Bk) (w : World) (hf : FsAt w a bs) (hm : bs.length ≤ 1048576) (hp : ∀ b ∈ bs, b.ps.length ≤ 1048576) (r : Rc) (o : Bool) (hr : flR bs addr = r) (ho : flO bs addr = o) :
    Calls Try.prog 40 #[.slice a bs.length cap, .int .i64 addr] w fun e w' => e = .returned (.tuple #[.agg #[.int .i64 r.k, .int .i64 r.s, .int .i64 r.a, .int .i64 r.v], .bool o]) ∧ Below w.heap.size w w' := by
  subst hr ho
  exact specLast_any a cap addr bs w hf hm hp
theorem next_wr {bs : List Bk} (hok : okB bs = true) (k : Nat) (hk : k < 4) (hu : usedN (bs.getD k zBk).ps ≠ 4) (rk rs ra rv : Int) (hs : ∀ b ∈ bs, ∀ p ∈ b.ps, p.s < rs) (h0 : 0 < rs) (hX : okB (wrL bs k (pgW false rk rs ra rv)) = true) : nextR (wrL bs k (pgW false rk rs ra rv)) = rs + 1 := by
  obtain ⟨L1, c, L2, e1, hc, e2⟩ := wr_flat hok k hk hu (pgW false rk rs ra rv)
  have hle : mostB (wrL bs k (pgW false rk rs ra rv)) ≤ rs := by
    rw [mostB_iff]
    refine ⟨by omega, fun b hb => ?_⟩
    rw [mostN_iff]
    refine ⟨by omega, fun p hp => ?_⟩
    have : p ∈ pgs (wrL bs k (pgW false rk rs ra rv)) := mem_pgs.2 ⟨b, hb, hp⟩
    rw [e2] at this
    rcases List.mem_append.1 this with h | h
    · have : p ∈ pgs bs := by rw [e1]; simp [h]
      obtain ⟨b', hb', hp'⟩ := mem_pgs.1 this
      have := hs b' hb' p hp'; omega
    · rcases List.mem_cons.1 h with rfl | h
      · exact Int.le_refl rs
      · have : p ∈ pgs bs := by rw [e1]; simp [h]
        obtain ⟨b', hb', hp'⟩ := mem_pgs.1 this
        have := hs b' hb' p hp'; omega
  have hge : rs ≤ mostB (wrL bs k (pgW false rk rs ra rv)) := by
    have : pgW false rk rs ra rv ∈ pgs (wrL bs k (pgW false rk rs ra rv)) := by rw [e2]; simp
    obtain ⟨b, hb, hp⟩ := mem_pgs.1 this
    exact most_page _ b hb _ hp
  unfold nextR
  rw [if_pos hX]
  omega

set_option maxRecDepth 100000 in
set_option maxHeartbeats 8000000 in
theorem walk (a0 : Option Addr) (len0 cap0 : Nat) (z0 : List Int) (a1 : Option Addr) (len1 cap1 : Nat) (z1 : List Int) (w : World) (h0 : IsRow .u8 w a0 len0 cap0 z0) (h1 : IsRow .u8 w a1 len1 cap1 z1) :
    Calls Try.prog 19 #[.slice a0 len0 cap0, .slice a1 len1 cap1] w fun e w' => e = .returned (.bool true) ∧ Below w.heap.size w w' := by
  have HD := hide (drawLast_any w a0 len0 cap0 z0 h0)
  clear h0
  clear h1
  go_enter Try.func19, Try.ntmps19
  by_cases hbig0 : 1048576 < (len0 : Int)
  · go_wp2
    go_ret
    exact ⟨rfl, Below.refl _ _⟩
  by_cases hbig1 : 1048576 < (len1 : Int)
  · go_wp2
    go_ret
    exact ⟨rfl, Below.refl _ _⟩
  go_wp2_with fail
  refine (unhide HD).mono ?_
  rintro e w1 ⟨g, o, c, bs, ad, rfl, F1, ad0, ad1, B⟩
  have h4 := F1.four
  have hp4 := hide F1.pgs
  have hf := F1.fs
  clear HD F1
  generalize hfa : (some ⟨g, o, none⟩ : Option Addr) = fa at *
  have HSL := hide (fun (w' : World) (hF : FsAt w' fa bs) (r : Rc) (o : Bool) (hr : flR bs ad = r) (ho : flO bs ad = o) => specLast_4 fa c ad bs w' hF (by omega) (fun b hb => by have := unhide hp4 b hb; omega) r o hr ho)
  have HIL := hide (fun (a : Int) (w' : World) (hF : FsAt w' fa bs) (r : Rc) (o : Bool) (hr : flR bs a = r) (ho : flO bs a = o) => implLast_4 fa c a bs w' hF bs.length rfl (by omega) r o hr ho)
  have HOK := hide (fun (w' : World) (hF : FsAt w' fa bs) => specFlashOk_any fa c  bs w' hF (by omega))
  have HOP := hide (fun (w' : World) (hF : FsAt w' fa bs) => implOpen_any fa c  bs w' hF (by omega))
  have HIN := hide (fun (w' : World) (hF : FsAt w' fa bs) => implNext_any fa c  bs w' hF (by omega))
  obtain ⟨r, hr⟩ : ∃ r, flR bs ad = r := ⟨_, rfl⟩
  obtain ⟨o9, ho⟩ : ∃ o, flO bs ad = o := ⟨_, rfl⟩
  have HR := hide hr
  have HO := hide ho
  have hoo : (o9 != o9) = false := by simp
  have hoe : (o9 == o9) = true := by simp
  go_wp2_with fail
  refine (unhide HSL _ hf r o9 hr ho).mono ?_
  rintro e wA ⟨rfl, b⟩
  clear hr ho
  replace hf := FsAt.below hf b
  replace B := B.trans (b.mono B.size)
  clear b
  have b : Below wA.heap.size wA (wA.alloc (.cells #[.int .i64 r.k, .int .i64 r.s, .int .i64 r.a, .int .i64 r.v] 25)) := (Below.refl _ _).alloc (Nat.le_refl _) _
  have cW := CsAt.new wA [.int .i64 r.k, .int .i64 r.s, .int .i64 r.a, .int .i64 r.v] 25
  replace hf := FsAt.below hf b
  replace B := B.trans (b.mono B.size)
  clear b
  go_wp2_with fail
  generalize wA.alloc (.cells #[.int .i64 r.k, .int .i64 r.s, .int .i64 r.a, .int .i64 r.v] 25) = wB at *
  generalize wA.heap.size = wb at *
  refine (unhide HIL ad _ hf r o9 (unhide HR) (unhide HO)).mono ?_
  rintro e wC ⟨rfl, b⟩
  replace hf := FsAt.below hf b
  replace cW := CsAt.below cW b (CsAt.lt cW (by simp))
  replace B := B.trans (b.mono B.size)
  clear b
  have b : Below wC.heap.size wC (wC.alloc (.cells #[.int .i64 r.k, .int .i64 r.s, .int .i64 r.a, .int .i64 r.v] 25)) := (Below.refl _ _).alloc (Nat.le_refl _) _
  have cR := CsAt.new wC [.int .i64 r.k, .int .i64 r.s, .int .i64 r.a, .int .i64 r.v] 25
  replace hf := FsAt.below hf b
  replace cW := CsAt.below cW b (CsAt.lt cW (by simp))
  replace B := B.trans (b.mono B.size)
  clear b
  have w0 := CsAt.cell cW 0 _ rfl
  have w1 := CsAt.cell cW 1 _ rfl
  have w2 := CsAt.cell cW 2 _ rfl
  have w3 := CsAt.cell cW 3 _ rfl
  have r0 := CsAt.cell cR 0 _ rfl
  have r1 := CsAt.cell cR 1 _ rfl
  have r2 := CsAt.cell cR 2 _ rfl
  have r3 := CsAt.cell cR 3 _ rfl
  go_wp2_with fail
  generalize wC.alloc (.cells #[.int .i64 r.k, .int .i64 r.s, .int .i64 r.a, .int .i64 r.v] 25) = wD at *
  generalize wC.heap.size = rb at *
  refine (unhide HOK _ hf).mono ?_
  rintro e wE ⟨rfl, b⟩
  clear w0 w1 w2 w3
  clear r0 r1 r2 r3
  replace hf := FsAt.below hf b
  replace cW := CsAt.below cW b (CsAt.lt cW (by simp))
  replace cR := CsAt.below cR b (CsAt.lt cR (by simp))
  replace B := B.trans (b.mono B.size)
  clear b
  cases hok : okB bs
  · have w0 := CsAt.cell cW 0 _ rfl
    have w1 := CsAt.cell cW 1 _ rfl
    have w2 := CsAt.cell cW 2 _ rfl
    have w3 := CsAt.cell cW 3 _ rfl
    have r0 := CsAt.cell cR 0 _ rfl
    have r1 := CsAt.cell cR 1 _ rfl
    have r2 := CsAt.cell cR 2 _ rfl
    have r3 := CsAt.cell cR 3 _ rfl
    go_wp2
    go_ret
    exact ⟨rfl, B⟩
  by_cases ha6 : 6 < ad
  · have w0 := CsAt.cell cW 0 _ rfl
    have w1 := CsAt.cell cW 1 _ rfl
    have w2 := CsAt.cell cW 2 _ rfl
    have w3 := CsAt.cell cW 3 _ rfl
    have r0 := CsAt.cell cR 0 _ rfl
    have r1 := CsAt.cell cR 1 _ rfl
    have r2 := CsAt.cell cR 2 _ rfl
    have r3 := CsAt.cell cR 3 _ rfl
    go_wp2
    go_ret
    exact ⟨rfl, B⟩
  clear cW
  have hl4 := hide (ok_len hok)
  obtain ⟨hn0, hn1, hn2⟩ := next_ok hok
  have HM := hide hn0
  clear hn0
  generalize hn : nextR bs = n at *
  clear hn
  have HALL : Hid (∀ b ∈ bs, ∀ p ∈ b.ps, p.s < n) := fun b hb p hp => by rw [unhide HM]; exact page_lt b hb p hp
  rcases fop_cases hok with ⟨e, _⟩ | ⟨kb, hkb, e, hc⟩
  · have HOP2 := hide (unhide HOP _ hf)
    rw [e] at HOP2
    go_wp2_with fail
    refine (unhide HOP2).mono ?_
    rintro e u49 ⟨rfl, b⟩
    replace hf := FsAt.below hf b
    replace cR := CsAt.below cR b (CsAt.lt cR (by simp))
    replace B := B.trans (b.mono B.size)
    clear b
    go_wp2_with fail
    refine (unhide HIN _ hf).mono ?_
    rintro e u50 ⟨rfl, b⟩
    replace hf := FsAt.below hf b
    replace cR := CsAt.below cR b (CsAt.lt cR (by simp))
    replace B := B.trans (b.mono B.size)
    clear b
    go_wp2
    go_ret
    exact ⟨rfl, B⟩
  have HOP2 := hide (unhide HOP _ hf)
  rw [e] at HOP2
  clear e
  go_wp2_with fail
  refine (unhide HOP2).mono ?_
  rintro e u51 ⟨rfl, b⟩
  replace hf := FsAt.below hf b
  replace cR := CsAt.below cR b (CsAt.lt cR (by simp))
  replace B := B.trans (b.mono B.size)
  clear b
  go_wp2_with fail
  refine (unhide HIN _ hf).mono ?_
  rintro e wF ⟨rfl, b⟩
  replace hf := FsAt.below hf b
  replace cR := CsAt.below cR b (CsAt.lt cR (by simp))
  replace B := B.trans (b.mono B.size)
  clear b
  by_cases h6 : 600 < n
  · go_wp2
    go_ret
    exact ⟨rfl, B⟩
  obtain ⟨vv, hv1, hv2, hv3, hv4⟩ : ∃ v : Int, (len1 : Int).tmod 10 = v ∧ (len1 : Int) % 10 = v ∧ 0 ≤ v ∧ v ≤ 9 := ⟨(len1 : Int) % 10, by rw [Int.tmod_eq_emod_of_nonneg (by omega)], rfl, by omega, by omega⟩
  have hrc : recB 1 n ad vv = true := by simp [recB, numB, inB]; omega
  obtain ⟨hwB, hwN⟩ := wr_open hok kb hkb hc 1 n ad vv (unhide HALL) hrc
  have hu4 := (Ok2.wrN_no hwN).1
  obtain ⟨-, hXok, -⟩ := wrR_yes (torn := false) hwB
  obtain ⟨-, hYok, -⟩ := wrR_yes (torn := true) hwB
  simp only [Int.toNat_natCast] at hXok hYok
  have hLX : (wrL bs kb (pgW false 1 n ad vv)).length = bs.length := by simp [wrL]
  have hLY : (wrL bs kb (pgW true 1 n ad vv)).length = bs.length := by simp [wrL]
  have HLW := hide (fun (torn : Bool) (addr : Int) => last_wr hok kb hkb hu4 1 n ad vv (unhide HALL) (by omega) torn addr)
  have HNX := hide (next_wr hok kb hkb hu4 1 n ad vv (unhide HALL) (by omega) hXok)
  have HXR : Hid (∀ a : Int, flR (wrL bs kb (pgW false 1 n ad vv)) a = if ad = a then ⟨1, n, ad, vv⟩ else flR bs a) := fun a => by
    rw [flR_ok hXok, unhide HLW false a, flR_ok hok]; simp
  have HXO : Hid (∀ a : Int, flO (wrL bs kb (pgW false 1 n ad vv)) a = if ad = a then true else flO bs a) := fun a => by
    rw [flO_ok hXok, unhide HLW false a, flO_ok hok]
    by_cases h : ad = a
    · simp [h, noRc]
    · simp [h]
  have HYR : Hid (flR (wrL bs kb (pgW true 1 n ad vv)) ad = r) := by show _ = _; rw [flR_ok hYok, unhide HLW true ad, ← unhide HR, flR_ok hok]; simp
  have HYO : Hid (flO (wrL bs kb (pgW true 1 n ad vv)) ad = o9) := by show _ = _; rw [flO_ok hYok, unhide HLW true ad, ← unhide HO, flO_ok hok]; simp
  have HXL := hide hLX
  have HYL := hide hLY
  have HWB := hide hwB
  clear hwB hwN hu4 hXok hYok hLX hLY hc hrc
  have b : Below wF.heap.size wF (wF.alloc (.cells #[.int .i64 1, .int .i64 n, .int .i64 ad, .int .i64 vv] 25)) := (Below.refl _ _).alloc (Nat.le_refl _) _
  have cQ := CsAt.new wF [.int .i64 1, .int .i64 n, .int .i64 ad, .int .i64 vv] 25
  replace hf := FsAt.below hf b
  replace cR := CsAt.below cR b (CsAt.lt cR (by simp))
  replace B := B.trans (b.mono B.size)
  clear b
  have q0 := CsAt.cell cQ 0 _ rfl
  have q1 := CsAt.cell cQ 1 _ rfl
  have q2 := CsAt.cell cQ 2 _ rfl
  have q3 := CsAt.cell cQ 3 _ rfl
  go_wp2_with fail
  generalize wF.alloc (.cells #[.int .i64 1, .int .i64 n, .int .i64 ad, .int .i64 vv] 25) = wG at *
  generalize wF.heap.size = qb at *
  refine (write_yes fa c bs.length kb 1 n ad vv false bs _ hf rfl (unhide HWB)).mono ?_
  rintro e wH ⟨xa, xc, rfl, hx, b⟩
  clear q0 q1 q2 q3
  replace hf := FsAt.below hf b
  replace cR := CsAt.below cR b (CsAt.lt cR (by simp))
  replace cQ := CsAt.below cQ b (CsAt.lt cQ (by simp))
  replace B := B.trans (b.mono B.size)
  clear b
  have q0 := CsAt.cell cQ 0 _ rfl
  have q1 := CsAt.cell cQ 1 _ rfl
  have q2 := CsAt.cell cQ 2 _ rfl
  have q3 := CsAt.cell cQ 3 _ rfl
  go_wp2_with fail
  refine (write_yes fa c bs.length kb 1 n ad vv true bs _ hf rfl (unhide HWB)).mono ?_
  rintro e wI ⟨ya, yc, rfl, hy, b⟩
  clear q0 q1 q2 q3
  replace hf := FsAt.below hf b
  replace hx := FsAt.below hx b
  replace cR := CsAt.below cR b (CsAt.lt cR (by simp))
  replace cQ := CsAt.below cQ b (CsAt.lt cQ (by simp))
  replace B := B.trans (b.mono B.size)
  clear b
  have HXI := hide (fun (a : Int) (w' : World) (hF : FsAt w' xa (wrL bs kb (pgW false 1 n ad vv))) (r : Rc) (o : Bool) (hr : flR (wrL bs kb (pgW false 1 n ad vv)) a = r) (ho : flO (wrL bs kb (pgW false 1 n ad vv)) a = o) => implLast_4 xa xc a _ w' hF bs.length (unhide HXL) (by have := unhide HXL; have := unhide hl4; omega) r o hr ho)
  have HXN := hide (fun (w' : World) (hF : FsAt w' xa (wrL bs kb (pgW false 1 n ad vv))) => implNext_any xa xc _ w' hF (by have := unhide HXL; have := unhide hl4; omega))
  rw [unhide HNX, unhide HXL] at HXN
  have HYI := hide (fun (w' : World) (hF : FsAt w' ya (wrL bs kb (pgW true 1 n ad vv))) => implLast_4 ya yc ad _ w' hF bs.length (unhide HYL) (by have := unhide HYL; have := unhide hl4; omega) r o9 (unhide HYR) (unhide HYO))
  generalize hXX : wrL bs kb (pgW false 1 n ad vv) = X at *
  generalize hYY : wrL bs kb (pgW true 1 n ad vv) = Y at *
  clear hXX hYY
  go_wp2_with fail
  refine (unhide HXI ad _ hx ⟨1, n, ad, vv⟩ true (by rw [unhide HXR, if_pos rfl]) (by rw [unhide HXO, if_pos rfl])).mono ?_
  rintro e wJ ⟨rfl, b⟩
  replace hf := FsAt.below hf b
  replace hx := FsAt.below hx b
  replace hy := FsAt.below hy b
  replace cR := CsAt.below cR b (CsAt.lt cR (by simp))
  replace cQ := CsAt.below cQ b (CsAt.lt cQ (by simp))
  replace B := B.trans (b.mono B.size)
  clear b
  have b : Below wJ.heap.size wJ (wJ.alloc (.cells #[.int .i64 1, .int .i64 n, .int .i64 ad, .int .i64 vv] 25)) := (Below.refl _ _).alloc (Nat.le_refl _) _
  have cL := CsAt.new wJ [.int .i64 1, .int .i64 n, .int .i64 ad, .int .i64 vv] 25
  replace hf := FsAt.below hf b
  replace hx := FsAt.below hx b
  replace hy := FsAt.below hy b
  replace cR := CsAt.below cR b (CsAt.lt cR (by simp))
  replace cQ := CsAt.below cQ b (CsAt.lt cQ (by simp))
  replace B := B.trans (b.mono B.size)
  clear b
  go_wp2_with fail
  generalize wJ.alloc (.cells #[.int .i64 1, .int .i64 n, .int .i64 ad, .int .i64 vv] 25) = wK at *
  generalize wJ.heap.size = lb at *
  refine (unhide HYI _ hy).mono ?_
  rintro e wL ⟨rfl, b⟩
  replace hf := FsAt.below hf b
  replace hx := FsAt.below hx b
  replace cR := CsAt.below cR b (CsAt.lt cR (by simp))
  replace cQ := CsAt.below cQ b (CsAt.lt cQ (by simp))
  replace cL := CsAt.below cL b (CsAt.lt cL (by simp))
  replace B := B.trans (b.mono B.size)
  clear b
  have b : Below wL.heap.size wL (wL.alloc (.cells #[.int .i64 r.k, .int .i64 r.s, .int .i64 r.a, .int .i64 r.v] 25)) := (Below.refl _ _).alloc (Nat.le_refl _) _
  have cF := CsAt.new wL [.int .i64 r.k, .int .i64 r.s, .int .i64 r.a, .int .i64 r.v] 25
  replace hf := FsAt.below hf b
  replace hx := FsAt.below hx b
  replace cR := CsAt.below cR b (CsAt.lt cR (by simp))
  replace cQ := CsAt.below cQ b (CsAt.lt cQ (by simp))
  replace cL := CsAt.below cL b (CsAt.lt cL (by simp))
  replace B := B.trans (b.mono B.size)
  clear b
  clear hy
  go_wp2
  generalize wL.alloc (.cells #[.int .i64 r.k, .int .i64 r.s, .int .i64 r.a, .int .i64 r.v] 25) = wM at *
  generalize wL.heap.size = eb at *
  have HB := hide B
  have HF := hide hf
  have HX := hide hx
  have HCR := hide cR
  have HCQ := hide cQ
  have HCL := hide cL
  have HCF := hide cF
  clear B hf hx cR cQ cL cF
  go_loopw [23] (fun i w' => ∃ a : Nat, 1 ≤ a ∧ a ≤ 7 ∧ i = .int .i64 a ∧ FsAt w' fa bs ∧ FsAt w' xa X ∧ CsAt w' rb [.int .i64 r.k, .int .i64 r.s, .int .i64 r.a, .int .i64 r.v] ∧ CsAt w' qb [.int .i64 1, .int .i64 n, .int .i64 ad, .int .i64 vv] ∧ CsAt w' lb [.int .i64 1, .int .i64 n, .int .i64 ad, .int .i64 vv] ∧ CsAt w' eb [.int .i64 r.k, .int .i64 r.s, .int .i64 r.a, .int .i64 r.v] ∧ Below w.heap.size w w') (fun i _ => 7 - (intOf i).toNat)
  case atStart => exact ⟨1, by omega, by omega, rfl, unhide HF, unhide HX, unhide HCR, unhide HCQ, unhide HCL, unhide HCF, unhide HB⟩
  case round =>
    obtain ⟨a, ha1, ha7, rfl, hf, hx, cR, cQ, cL, cF, B⟩ := hrel
    clear HB HF HX HCR HCQ HCL HCF
    by_cases h7 : a = 7
    · rw [show (a : Int) = 7 by omega]
      clear ha1 ha7 h7
      have r0 := CsAt.cell cR 0 _ rfl
      have r1 := CsAt.cell cR 1 _ rfl
      have r2 := CsAt.cell cR 2 _ rfl
      have r3 := CsAt.cell cR 3 _ rfl
      have q0 := CsAt.cell cQ 0 _ rfl
      have q1 := CsAt.cell cQ 1 _ rfl
      have q2 := CsAt.cell cQ 2 _ rfl
      have q3 := CsAt.cell cQ 3 _ rfl
      have l0 := CsAt.cell cL 0 _ rfl
      have l1 := CsAt.cell cL 1 _ rfl
      have l2 := CsAt.cell cL 2 _ rfl
      have l3 := CsAt.cell cL 3 _ rfl
      have f0 := CsAt.cell cF 0 _ rfl
      have f1 := CsAt.cell cF 1 _ rfl
      have f2 := CsAt.cell cF 2 _ rfl
      have f3 := CsAt.cell cF 3 _ rfl
      go_wp2_with fail
      refine (unhide HXN _ hx).mono ?_
      rintro e wN ⟨rfl, b⟩
      replace B := B.trans (b.mono B.size)
      clear b
      go_wp2
      go_ret
      exact ⟨by first | rfl | simp, B⟩
    have hai : (a : Int) ≤ 6 := by omega
    obtain ⟨ra, hra⟩ : ∃ x, flR bs (a : Int) = x := ⟨_, rfl⟩
    obtain ⟨oa, hoa⟩ : ∃ x, flO bs (a : Int) = x := ⟨_, rfl⟩
    have HRA := hide hra
    have HOA := hide hoa
    clear hra hoa
    go_wp2_with fail
    refine (unhide HIL (a : Int) _ hf ra oa (unhide HRA) (unhide HOA)).mono ?_
    rintro e wN ⟨rfl, b⟩
    replace hf := FsAt.below hf b
    replace hx := FsAt.below hx b
    replace cR := CsAt.below cR b (CsAt.lt cR (by simp))
    replace cQ := CsAt.below cQ b (CsAt.lt cQ (by simp))
    replace cL := CsAt.below cL b (CsAt.lt cL (by simp))
    replace cF := CsAt.below cF b (CsAt.lt cF (by simp))
    replace B := B.trans (b.mono B.size)
    clear b
    have b : Below wN.heap.size wN (wN.alloc (.cells #[.int .i64 ra.k, .int .i64 ra.s, .int .i64 ra.a, .int .i64 ra.v] 25)) := (Below.refl _ _).alloc (Nat.le_refl _) _
    have cP := CsAt.new wN [.int .i64 ra.k, .int .i64 ra.s, .int .i64 ra.a, .int .i64 ra.v] 25
    replace hf := FsAt.below hf b
    replace hx := FsAt.below hx b
    replace cR := CsAt.below cR b (CsAt.lt cR (by simp))
    replace cQ := CsAt.below cQ b (CsAt.lt cQ (by simp))
    replace cL := CsAt.below cL b (CsAt.lt cL (by simp))
    replace cF := CsAt.below cF b (CsAt.lt cF (by simp))
    replace B := B.trans (b.mono B.size)
    clear b
    go_wp2_with fail
    generalize wN.alloc (.cells #[.int .i64 ra.k, .int .i64 ra.s, .int .i64 ra.a, .int .i64 ra.v] 25) = wO at *
    generalize wN.heap.size = pb9 at *
    by_cases hq : ad = (a : Int)
    · have hqn : ((a : Int) != ad) = false := by simp [hq]
      have HXC := hide (unhide HXI (a : Int) _ hx ⟨1, n, ad, vv⟩ true (by rw [unhide HXR, if_pos hq]) (by rw [unhide HXO, if_pos hq]))
      clear hq
      refine (unhide HXC).mono ?_
      rintro e wP ⟨rfl, b⟩
      replace hf := FsAt.below hf b
      replace hx := FsAt.below hx b
      replace cR := CsAt.below cR b (CsAt.lt cR (by simp))
      replace cQ := CsAt.below cQ b (CsAt.lt cQ (by simp))
      replace cL := CsAt.below cL b (CsAt.lt cL (by simp))
      replace cF := CsAt.below cF b (CsAt.lt cF (by simp))
      replace cP := CsAt.below cP b (CsAt.lt cP (by simp))
      replace B := B.trans (b.mono B.size)
      clear b
      have b : Below wP.heap.size wP (wP.alloc (.cells #[.int .i64 1, .int .i64 n, .int .i64 ad, .int .i64 vv] 25)) := (Below.refl _ _).alloc (Nat.le_refl _) _
      have cU := CsAt.new wP [.int .i64 1, .int .i64 n, .int .i64 ad, .int .i64 vv] 25
      replace hf := FsAt.below hf b
      replace hx := FsAt.below hx b
      replace cR := CsAt.below cR b (CsAt.lt cR (by simp))
      replace cQ := CsAt.below cQ b (CsAt.lt cQ (by simp))
      replace cL := CsAt.below cL b (CsAt.lt cL (by simp))
      replace cF := CsAt.below cF b (CsAt.lt cF (by simp))
      replace cP := CsAt.below cP b (CsAt.lt cP (by simp))
      replace B := B.trans (b.mono B.size)
      clear b
      go_wp2
      go_roundw
      case rel => exact ⟨a + 1, by omega, by omega, by first | rfl | go_num, hf, hx, cR, cQ, cL, cF, B⟩
      case measure => simp [intOf]; omega
    · have hqn : ((a : Int) != ad) = true := by simp; exact fun h => hq h.symm
      have hoan : (oa != oa) = false := by simp
      have HXC := hide (unhide HXI (a : Int) _ hx ra oa (by rw [unhide HXR, if_neg hq]; exact unhide HRA) (by rw [unhide HXO, if_neg hq]; exact unhide HOA))
      clear hq
      refine (unhide HXC).mono ?_
      rintro e wP ⟨rfl, b⟩
      replace hf := FsAt.below hf b
      replace hx := FsAt.below hx b
      replace cR := CsAt.below cR b (CsAt.lt cR (by simp))
      replace cQ := CsAt.below cQ b (CsAt.lt cQ (by simp))
      replace cL := CsAt.below cL b (CsAt.lt cL (by simp))
      replace cF := CsAt.below cF b (CsAt.lt cF (by simp))
      replace cP := CsAt.below cP b (CsAt.lt cP (by simp))
      replace B := B.trans (b.mono B.size)
      clear b
      have b : Below wP.heap.size wP (wP.alloc (.cells #[.int .i64 ra.k, .int .i64 ra.s, .int .i64 ra.a, .int .i64 ra.v] 25)) := (Below.refl _ _).alloc (Nat.le_refl _) _
      have cU := CsAt.new wP [.int .i64 ra.k, .int .i64 ra.s, .int .i64 ra.a, .int .i64 ra.v] 25
      replace hf := FsAt.below hf b
      replace hx := FsAt.below hx b
      replace cR := CsAt.below cR b (CsAt.lt cR (by simp))
      replace cQ := CsAt.below cQ b (CsAt.lt cQ (by simp))
      replace cL := CsAt.below cL b (CsAt.lt cL (by simp))
      replace cF := CsAt.below cF b (CsAt.lt cF (by simp))
      replace cP := CsAt.below cP b (CsAt.lt cP (by simp))
      replace B := B.trans (b.mono B.size)
      clear b
      have p0 := CsAt.cell cP 0 _ rfl
      have p1 := CsAt.cell cP 1 _ rfl
      have p2 := CsAt.cell cP 2 _ rfl
      have p3 := CsAt.cell cP 3 _ rfl
      have u0 := CsAt.cell cU 0 _ rfl
      have u1 := CsAt.cell cU 1 _ rfl
      have u2 := CsAt.cell cU 2 _ rfl
      have u3 := CsAt.cell cU 3 _ rfl
      go_wp2
      go_roundw
      case rel => exact ⟨a + 1, by omega, by omega, by first | rfl | go_num, hf, hx, cR, cQ, cL, cF, B⟩
      case measure => simp [intOf]; omega


set_option maxRecDepth 100000 in
theorem lifted (os : Os) (started : os.Started) (H : Type) (enc : TypeId × Value → H) :
    ReturnsInHanded {} Try.checked os 19 .any (Rows.fnLastWriteSpec.pre6 enc Try.prog Try.f19 Rows.fnLastWriteRow.domain false) (Rows.fnLastWriteSpec.post enc Try.prog Try.f19 false true false false) := by
  refine returnsInHanded_of_change (C := Try.checked) own started (by kernel_rfl) Try.func19
    (ChangeSpec.witness6 (enc := enc) (C := Try.checked) false ⟨#[], #[.slice none 0 0, .slice none 0 0], []⟩ 8 (by kernel_rfl) (by kernel_rfl) (by kernel_rfl) (by kernel_rfl)) ?_
  intro W base args ds gs before hval0 hW hcnd _
  have hval : ∀ (j : Nat) t v, Try.f19.params[j]? = some t → args[j]? = some v → Value.okWide Try.prog W .any base t v := hval0
  have hW' := hW
  obtain ⟨p, q, hA0, hV, rfl, hfz, hnd⟩ := hW
  have hA : DataW.TrodAll enc Try.prog W 0 (fun _ => true) true Try.f19.params.toList args.toList ds p := hA0
  rw [Try.params19] at hA hval
  obtain ⟨v0, vs0, d0, ds0, p0, q0, hargs, rfl, rfl, h0, r0⟩ := trodAll_cons hA
  obtain ⟨v1, vs1, d1, ds1, p1, q1, rfl, rfl, rfl, h1, r1⟩ := trodAll_cons r0
  obtain ⟨rfl, rfl, rfl⟩ := trodAll_nil r1
  obtain rfl : args = #[v0, v1] := by cases args; simp_all
  obtain ⟨rfl, rfl⟩ := trodVars_none hV
  have kk0 := h0
  have lt0 : ∀ x ∈ p0, x.block < W.heap.size := by obtain ⟨m, hm⟩ := kk0; exact DataW.trod_lt m _ _ _ hm
  obtain ⟨a0, len0, cap0, rfl⟩ := okWide_slice Try.underlying22 (hval 0 22 v0 rfl rfl)
  obtain ⟨z0, w0⟩ : ∃ zs, IsRow .u8 W a0 len0 cap0 zs := by
    obtain ⟨fuel, hf⟩ := h0
    rcases open_ints Try.underlying22 Try.underlying5 (by kernel_rfl) hf with ⟨hcs, _⟩ | ⟨x, l, c, zs, hcs, _, hl, hm, hz, _, hcell, hwz⟩
    · simp [Value.cells] at hcs
      obtain ⟨rfl, rfl, rfl⟩ := hcs
      exact ⟨[], .inl ⟨rfl, rfl, rfl, rfl⟩⟩
    · simp [Value.cells] at hcs
      obtain ⟨rfl, rfl, rfl⟩ := hcs
      exact ⟨zs, .inr ⟨_, rfl, hl, hm, by simpa using hz, hcell, hwz⟩⟩
  have kk1 := h1
  have lt1 : ∀ x ∈ p1, x.block < W.heap.size := by obtain ⟨m, hm⟩ := kk1; exact DataW.trod_lt m _ _ _ hm
  obtain ⟨a1, len1, cap1, rfl⟩ := okWide_slice Try.underlying22 (hval 1 22 v1 rfl rfl)
  obtain ⟨z1, w1⟩ : ∃ zs, IsRow .u8 W a1 len1 cap1 zs := by
    obtain ⟨fuel, hf⟩ := h1
    rcases open_ints Try.underlying22 Try.underlying5 (by kernel_rfl) hf with ⟨hcs, _⟩ | ⟨x, l, c, zs, hcs, _, hl, hm, hz, _, hcell, hwz⟩
    · simp [Value.cells] at hcs
      obtain ⟨rfl, rfl, rfl⟩ := hcs
      exact ⟨[], .inl ⟨rfl, rfl, rfl, rfl⟩⟩
    · simp [Value.cells] at hcs
      obtain ⟨rfl, rfl, rfl⟩ := hcs
      exact ⟨zs, .inr ⟨_, rfl, hl, hm, by simpa using hz, hcell, hwz⟩⟩
  clear hA0
  refine (walk a0 len0 cap0 z0 a1 len1 cap1 z1 W w0 w1).mono fun e W' ⟨he, bel⟩ => ?_
  subst he
  exact ⟨_, rfl, _, _, _, [], _, [], hW', trodAll_mk1 (shut_bool Try.underlying4 _), (trodAll_cons_mk (Below.trod laidOut (by kernel_rfl) (of_decide_eq_true (by kernel_rfl)) kk0 bel lt0) (trodAll_cons_mk (Below.trod laidOut (by kernel_rfl) (of_decide_eq_true (by kernel_rfl)) kk1 bel lt1) trodAll_mk0)), rfl, bel.frame _, fun h => by cases h⟩

set_option maxRecDepth 100000 in
theorem facts : joinedFacts Try.prog 19 Try.f19 Rows.fnLastWriteSpec Rows.fnLastWriteRow = true := by
  unfold joinedFacts
  refine Facts.and_t ?_ (by as_aux_lemma => kernel_rfl)
  refine Facts.and_t ?_ (by as_aux_lemma => kernel_rfl)
  refine Facts.and_t ?_ (by as_aux_lemma => kernel_rfl)
  refine Facts.and_t ?_ (by as_aux_lemma => kernel_rfl)
  refine Facts.and_t ?_ (by show (Try.prog.make == some Make.cut) = true; rw [Facts.made]; rfl)
  refine Facts.and_t ?_ (by show (false == Try.prog.liftsFinal) = true; rw [Facts.lifts]; rfl)
  refine Facts.and_t ?_ (Facts.enters)
  refine Facts.and_t ?_ (Facts.heard)
  refine Facts.and_t ?_ (rfl)
  refine Facts.and_t ?_ (by show (true == Try.prog.plainKeys) = true; rw [Facts.keys]; rfl)
  refine Facts.and_t ?_ (by as_aux_lemma => kernel_rfl)
  refine Facts.and_t ?_ (by as_aux_lemma => kernel_rfl)
  refine Facts.and_t ?_ (by as_aux_lemma => kernel_rfl)
  refine Facts.and_t ?_ (by as_aux_lemma => kernel_rfl)
  refine Facts.and_t ?_ (by as_aux_lemma => kernel_rfl)
  refine Facts.and_t ?_ (by as_aux_lemma => kernel_rfl)
  refine Facts.and_t ?_ (by as_aux_lemma => kernel_rfl)
  refine Facts.and_t ?_ (by as_aux_lemma => kernel_rfl)
  refine Facts.and_t ?_ (by as_aux_lemma => kernel_rfl)
  refine Facts.and_t ?_ (by as_aux_lemma => kernel_rfl)
  refine Facts.and_t ?_ (by as_aux_lemma => kernel_rfl)
  refine Facts.and_t ?_ (by as_aux_lemma => kernel_rfl)
  refine Facts.and_t ?_ (by as_aux_lemma => kernel_rfl)
  refine Facts.and_t ?_ (by as_aux_lemma => kernel_rfl)
  refine Facts.and_t ?_ (by as_aux_lemma => kernel_rfl)
  refine Facts.and_t ?_ (by as_aux_lemma => kernel_rfl)
  refine Facts.and_t ?_ (by as_aux_lemma => kernel_rfl)
  refine Facts.and_t ?_ (by as_aux_lemma => kernel_rfl)
  refine Facts.and_t ?_ (by as_aux_lemma => kernel_rfl)
  refine Facts.and_t ?_ (Facts.rowed)
  refine Facts.and_t ?_ (Facts.laidOut)
  kernel_rfl

theorem over : Rows.fnLastWriteRow.holds Try.pinned (OpenSpec.ofChange Rows.fnLastWriteSpec) :=
  OpenClaim.holds_of_wide 19 Try.f19 rfl rfl rfl rfl rfl rfl rfl ⟨rfl, rfl, rfl, rfl, rfl⟩ rfl rfl rfl rfl rfl (by kernel_rfl) Try.func19 facts
    (of_decide_eq_true (by kernel_rfl)) (by unfold Func.isWrapper; first | (rw [if_pos (by decide +kernel)]; kernel_rfl) | (rw [if_neg (by decide +kernel)]; exact ⟨rfl, rfl⟩))
    (fun os started H enc _ => lifted os started H enc)

end Go.Proofs.Ytogioeflbbmppaa.LastWrite
namespace Go.Proofs.Ytogioeflbbmppaa
theorem fnLastWrite_holds : Rows.FnLastWriteSaid := LastWrite.over
end Go.Proofs.Ytogioeflbbmppaa
