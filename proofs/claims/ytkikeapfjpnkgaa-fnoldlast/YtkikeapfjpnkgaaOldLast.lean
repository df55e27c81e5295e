/-
  What is on the eldest block is elder than all else: so it is in drawn blocks. The given statement, with no condition.
-/
import Derived.Test.YtkikeapfjpnkgaaPz
import Derived.Test.YtkikeapfjpnkgaaWpM
import Derived.Test.YtkikeapfjpnkgaaBaS
import Derived.Test.YtkikeapfjpnkgaaPlE
import Derived.Test.YtkikeapfjpnkgaaDrP
import Derived.Test.YtkikeapfjpnkgaaLqM
import Derived.Test.YtkikeapfjpnkgaaFacts
import Derived.Lib.SmallJoins
namespace Go.Proofs.Ytkikeapfjpnkgaa.OldLast
open Go.ChangeShapes Go.WideShapes Go.ChangeAt Go.RowKit Go.Shelf Go.Joins OkA Big Fl ImplB ImplF ImplS ImplT ImplU SpecA SpecB SpecC SpecD SpecW SpecX SpecF SpecG SpecH FindP FindN FindO FindD ImplW ImplX Pick Draw ClA DrB PlB SpecO FindQ ImplL Pl FindL Ok2 Py Pz Ws PlC PlD DrP FindD FindV LawsE
open FlB (FsN)
open Facts (own laidOut)
set_option linter.unusedVariables false
set_option linter.unusedSimpArgs false
attribute [local go_sem ↓] Go.wp_at_zero Go.wp_at_succ

theorem ordR_iff (bs : List Bk) : ordR bs = true ↔ okB bs = true ∧ ordB bs = true := by unfold ordR; simp
variable {bs : List Bk}
theorem seq_apart (hok : okB bs = true) {i j : Nat} (hi : i < 4) (hj : j < 4) (hne : i ≠ j) {p q : Pg} (hp : p ∈ (bs.getD i zBk).ps) (hq : q ∈ (bs.getD j zBk).ps) (p1 : p.st = 1) (q1 : q.st = 1) : p.s ≠ q.s := by
  have hn := ((okB_iff bs).1 hok).2.2
  have hl := ok_len hok
  rw [getD_in bs i (by omega)] at hp
  rw [getD_in bs j (by omega)] at hq
  have hpw := (List.pairwise_flatMap.1 (show (bs.flatMap fun b => seqsP b.ps).Pairwise (· ≠ ·) from hn)).2
  rw [List.pairwise_iff_getElem] at hpw
  have mp : p.s ∈ seqsP bs[i].ps := List.mem_filterMap.2 ⟨p, hp, by unfold seqP; rw [if_pos p1]⟩
  have mq : q.s ∈ seqsP bs[j].ps := List.mem_filterMap.2 ⟨q, hq, by unfold seqP; rw [if_pos q1]⟩
  by_cases h : i < j
  · exact hpw i j (by omega) (by omega) h _ mp _ mq
  · exact fun e => hpw j i (by omega) (by omega) (by omega) _ mq _ mp e.symm
theorem pg_ok (hok : okB bs = true) {b : Bk} (hb : b ∈ bs) {p : Pg} (hp : p ∈ b.ps) : (p.st = 1 ∧ recB p.k p.s p.a p.v = true ∧ 1 ≤ p.s) ∨ (p.st ≠ 1 ∧ p.s = 0) := by
  have h := ((bkB_iff b).1 (((okB_iff bs).1 hok).2.1 b hb)).2.2.1 p hp
  unfold pgB at h
  by_cases h1 : p.st = 1
  · rw [if_pos h1] at h
    refine .inl ⟨h1, h, ?_⟩
    simp [recB, numB, inB] at h
    omega
  · rw [if_neg h1] at h
    refine .inr ⟨h1, ?_⟩
    have : noB p = true := by
      by_cases h0 : p.st = 0
      · rwa [if_pos h0] at h
      · rw [if_neg h0] at h
        by_cases h2 : p.st = 2
        · rwa [if_pos h2] at h
        · rw [if_neg h2] at h; cases h
    simp [noB] at this
    exact this.1.1.2
theorem mem_getD (hok : okB bs = true) {i : Nat} (hi : i < 4) : bs.getD i zBk ∈ bs := by
  have hl := ok_len hok
  rw [getD_in bs i (by omega)]
  exact List.getElem_mem _
theorem pg_0 (hok : okB bs = true) {i : Nat} (hi : i < 4) : ∀ p ∈ (bs.getD i zBk).ps, 0 ≤ p.s := fun p hp => by
  rcases pg_ok hok (mem_getD hok hi) hp with h | h <;> omega
/-- What is on the eldest block is elder than all else. -/
theorem elder (hok : okB bs = true) (ho : ordB bs = true) {j : Nat} (hj : j < 4) (hne : j ≠ (oldN bs 3)) {p q : Pg} (hp : p ∈ (bs.getD ((oldN bs 3)) zBk).ps) (hq : q ∈ (bs.getD j zBk).ps) (p1 : p.st = 1) (q1 : q.st = 1) : p.s < q.s := by
  have hk : (oldN bs 3) < 4 := by have : (oldN bs 3) ≤ 3 := oldN_le bs 3; omega
  have hle : mostN (bs.getD ((oldN bs 3)) zBk).ps ≤ mostN (bs.getD j zBk).ps := (old_spec bs 3 j (by omega)).1
  have mp := mostN_ge _ p hp
  have mq := mostN_ge _ q hq
  have hap := seq_apart hok hk hj (fun e => hne e.symm) hp hq p1 q1
  have sp : 1 ≤ p.s := by rcases pg_ok hok (mem_getD hok hk) hp with h | h <;> omega
  have sq : 1 ≤ q.s := by rcases pg_ok hok (mem_getD hok hj) hq with h | h <;> omega
  have hov := (ov_iff _ _).1 (ord_parts ho hk hj (fun e => hne e.symm)).1
  have lk := least_spec _ (pg_0 hok hk)
  have lj := least_spec _ (pg_0 hok hj)
  rcases lk with ⟨_, h0⟩ | ⟨_, ⟨p', hp', ep'⟩, lk⟩
  · have := h0 p hp; omega
  rcases lj with ⟨_, h0⟩ | ⟨_, _, lj⟩
  · have := h0 q hq; omega
  have lkp := lk p hp (by omega)
  have ljq := lj q hq (by omega)
  by_cases h : p.s < q.s
  · exact h
  exfalso
  apply hov
  refine ⟨by omega, by omega, ?_, by omega⟩
  have : leastN (bs.getD ((oldN bs 3)) zBk).ps ≠ mostN (bs.getD j zBk).ps := fun e => by
    rcases mostN_at (bs.getD j zBk).ps with e0 | ⟨q', hq', eq'⟩
    · omega
    have p1' : p'.st = 1 := by rcases pg_ok hok (mem_getD hok hk) hp' with h | h <;> first | exact h.1 | omega
    have q1' : q'.st = 1 := by rcases pg_ok hok (mem_getD hok hj) hq' with h | h <;> first | exact h.1 | omega
    exact seq_apart hok hk hj (fun e => hne e.symm) hp' hq' p1' q1' (by omega)
  omega


theorem elder_all {bs : List Bk} (hok : okB bs = true) (ho : ordB bs = true) {k : Nat} (hk : k < 4) (hne : k ≠ oldN bs 3) {p q : Pg} (hp : p ∈ (bs.getD (oldN bs 3) zBk).ps) (hq : q ∈ (bs.getD k zBk).ps) (p1 : p.st = 1) (q1 : q.st = 1) : p.s < q.s ∧ (liveB bs p = true → q.a ≠ p.a) := by
  have h1 := elder hok ho hk hne hp hq p1 q1
  refine ⟨h1, fun hl e => ?_⟩
  rw [liveB_eq] at hl
  simp at hl
  have h2 := (last_spec bs p.a).1 _ (mem_getD hok hk) q hq q1 e
  omega
theorem lv_live {bs : List Bk} {b i : Nat} (hb : b < bs.length) (hi : i < bs[b].ps.length) (h : lvR bs (b : Int) (i : Int) = true) : liveB bs bs[b].ps[i] = true := by
  unfold lvR pgAt at h
  rw [Int.toNat_natCast, Int.toNat_natCast, Ok2.getD_in bs b hb] at h
  simp only [Bool.and_eq_true] at h
  have e : bs[b].ps.getD i zPg = bs[b].ps[i] := by rw [List.getD_eq_getElem?_getD, List.getElem?_eq_getElem hi]; rfl
  rw [← e]; exact h.2

set_option maxRecDepth 100000 in
set_option maxHeartbeats 8000000 in
theorem walk (a0 : Option Addr) (len0 cap0 : Nat) (z0 : List Int) (w : World) (h0 : IsRow .u8 w a0 len0 cap0 z0) :
    Calls Try.prog 9 #[.slice a0 len0 cap0] w fun e w' => e = .returned (.bool true) ∧ Below w.heap.size w w' := by
  have HD := hide (drawOrder_any w a0 len0 cap0 z0 h0)
  clear h0
  go_enter Try.func9, Try.ntmps9
  by_cases hbig0 : 1048576 < (len0 : Int)
  · go_wp2
    go_ret
    exact ⟨rfl, Below.refl _ _⟩
  go_wp2_with fail
  refine (unhide HD).mono ?_
  rintro e w1 ⟨g, o, c, bs, rfl, F1, B⟩
  have h4 := F1.four
  have hp4 := hide F1.pgs
  have hf := F1.fs
  clear HD F1
  generalize (some ⟨g, o, none⟩ : Option Addr) = fa at *
  have HIO := hide (fun (w' : World) (hF : FsAt w' fa bs) => implOrder_any fa c bs w' hF (by omega))
  have HSO := hide (fun (w' : World) (hF : FsAt w' fa bs) => specOrder_any fa c bs w' hF (by omega))
  have HOP := hide (fun (w' : World) (hF : FsAt w' fa bs) => implOpen_any fa c bs w' hF (by omega))
  have HIN := hide (fun (w' : World) (hF : FsAt w' fa bs) => implNext_any fa c bs w' hF (by omega))
  have HOL := hide (fun (w' : World) (hF : FsAt w' fa bs) => implOld_any fa c bs w' hF (by omega))
  skip
  cases hoR : ordR bs
  · have HA := HIO
    have HB := HSO
    rw [hoR] at HA HB
    clear HIO HSO HOP HIN HOL
    go_wp2_with fail
    refine (unhide HA _ hf).mono ?_
    rintro e u1 ⟨rfl, b⟩
    replace hf := hf.below b
    replace B := B.trans (b.mono B.size)
    clear b
    go_wp2_with fail
    refine (unhide HB _ hf).mono ?_
    rintro e u2 ⟨rfl, b⟩
    replace hf := hf.below b
    replace B := B.trans (b.mono B.size)
    clear b
    go_wp2_with fail
    refine (unhide HB _ hf).mono ?_
    rintro e u3 ⟨rfl, b⟩
    replace hf := hf.below b
    replace B := B.trans (b.mono B.size)
    clear b
    go_wp2
    go_ret
    exact ⟨rfl, B⟩
  obtain ⟨hok, ho⟩ := (ordR_iff bs).1 hoR
  rw [hoR] at HIO HSO
  have hl4 := ok_len hok
  rw [hl4] at HIO HSO HOP HIN HOL
  rw [hl4]
  have HL4 := hide hl4
  clear hl4 h4
  go_wp2_with fail
  refine (unhide HIO _ hf).mono ?_
  rintro e u1 ⟨rfl, b⟩
  replace hf := hf.below b
  replace B := B.trans (b.mono B.size)
  clear b
  go_wp2_with fail
  refine (unhide HSO _ hf).mono ?_
  rintro e u2 ⟨rfl, b⟩
  replace hf := hf.below b
  replace B := B.trans (b.mono B.size)
  clear b
  clear HIO HSO
  clear HOP HIN
  obtain ⟨hol, hol4⟩ := old_ok hok
  rw [hol] at HOL
  have HE := hide (fun (k : Nat) (hk : k < 4) (hne : k ≠ oldN bs 3) (p q : Pg) => @elder_all bs hok ho k hk hne p q)
  have HLV := hide (fun (i : Int) (w' : World) (hF : FsAt w' fa bs) => implLive_any fa c ((oldN bs 3 : Nat) : Int) i bs w' hF (by have := unhide HL4; omega))
  have HFO := hide (fun (w' : World) (hF : FsAt w' fa bs) => ImplU.flashOk_any fa c bs w' hF (by have := unhide HL4; omega))
  rw [unhide HL4] at HLV HFO
  rw [hok] at HFO
  clear hol ho hoR
  generalize oldN bs 3 = od at *
  go_wp2_with fail
  refine (unhide HOL _ hf).mono ?_
  rintro e u3 ⟨rfl, b⟩
  replace hf := hf.below b
  replace B := B.trans (b.mono B.size)
  clear b
  clear HOL
  have HOK := hide hok
  clear hok
  have HSZ := hide (fun (p : Pg) => (show (Try.prog.info? 33).map (·.size) = some (pgC p).length by rw [len_pgC]; kernel_rfl))
  have hodi : (od : Int) < 4 := by omega
  have hod0 : (0 : Int) ≤ (od : Int) := by omega
  go_wp2
  have HF := hide hf
  have HB := hide B
  clear hf B
  go_loopw [6] (fun v w' => ∃ i : Nat, i ≤ 4 ∧ v = .int .i64 i ∧ FsAt w' fa bs ∧ Below w.heap.size w w') (fun v _ => 4 - (intOf v).toNat)
  case atStart => exact ⟨0, by omega, rfl, unhide HF, unhide HB⟩
  case round =>
    obtain ⟨i, hi, rfl, hf, B⟩ := hrel
    clear HF HB
    by_cases h4 : i = 4
    · subst h4
      clear HE HLV HSZ
      go_wp2_with fail
      refine (unhide HFO _ hf).mono ?_
      rintro e u91 ⟨rfl, b⟩
      replace hf := hf.below b
      replace B := B.trans (b.mono B.size)
      clear b
      go_wp2
      go_ret
      exact ⟨rfl, B⟩
    have hi4 : i < 4 := by omega
    have hii : (i : Int) < 4 := by omega
    have hi0 : (0 : Int) ≤ (i : Int) := by omega
    have hwi : IntKind.i64.wrap ((i : Int) + 1) = (i : Int) + 1 := by rw [IntKind.wrap_i64] <;> omega
    have hodl : od < bs.length := by have := unhide HL4; omega
    have hol4 : bs[od].ps.length = 4 := (ok_fours (unhide HOK)).at od hodl
    have hil : i < bs[od].ps.length := by omega
    obtain ⟨fbp, fop, pbp, pop, pcp, ep, cp, -, hrp⟩ := ok_at hf (unhide HOK) od (by omega)
    subst ep
    have hrp2 := range_pg hrp i hil
    have HEP := hide (fun (k : Nat) (hk : k < 4) (hne : k ≠ od) (q : Pg) (hq : q ∈ (bs.getD k zBk).ps) => unhide HE k hk hne bs[od].ps[i] q (by rw [Ok2.getD_in bs od hodl]; exact List.getElem_mem _) hq)
    have HLP := hide (fun (h : lvR bs (od : Int) (i : Int) = true) => lv_live hodl hil h)
    have HLI := hide (fun (w' : World) (hF : FsAt w' (some ⟨fbp, fop, none⟩) bs) => unhide HLV (i : Int) w' hF)
    clear hrp HE hol4 HLV
    generalize bs[od].ps[i] = p at *
    generalize hLV : lvR bs (od : Int) (i : Int) = lv at *
    have HLVE := hide hLV
    clear hLV hil
    have bP : Below wr.heap.size wr (wr.alloc (.cells #[.int .i64 p.st, .int .i64 p.k, .int .i64 p.s, .int .i64 p.a, .int .i64 p.v] 33)) := (Below.refl _ _).alloc (Nat.le_refl _) _
    have cP := CsAt.new wr [.int .i64 p.st, .int .i64 p.k, .int .i64 p.s, .int .i64 p.a, .int .i64 p.v] 33
    have HF := hide (FsAt.below hf bP)
    have HB := hide (B.trans (bP.mono B.size))
    have HCP := hide cP
    go_wp2_with (refine wpList_load_mid rfl 33 _ rfl pbp (pop + i * 5) rfl [.int .i64 p.st, .int .i64 p.k, .int .i64 p.s, .int .i64 p.a, .int .i64 p.v] _ hrp2 Try.underlying33 rfl (unhide HSZ p) ?_)
    clear hf B bP cP cp hrp2
    generalize wr.heap.size = xb at *
    go_loopw [8] (fun v w' => ∃ k : Nat, k ≤ 4 ∧ v = .int .i64 k ∧ FsAt w' (some ⟨fbp, fop, none⟩) bs ∧ CsAt w' xb [.int .i64 p.st, .int .i64 p.k, .int .i64 p.s, .int .i64 p.a, .int .i64 p.v] ∧ Below w.heap.size w w') (fun v _ => 4 - (intOf v).toNat)
    case atStart => exact ⟨0, by omega, rfl, unhide HF, unhide HCP, unhide HB⟩
    case round =>
      obtain ⟨k, hk, rfl, hf, cP, B⟩ := hrel
      clear HF HB HCP
      by_cases h4k : k = 4
      · subst h4k
        clear HEP HLP HLI HLVE HSZ cP
        go_wp2
        go_roundw
        case rel => exact ⟨i + 1, by omega, by first | rfl | go_num, hf, B⟩
        case measure => simp [intOf]; omega
      have hk4 : k < 4 := by omega
      have hki : (k : Int) < 4 := by omega
      have hk0 : (0 : Int) ≤ (k : Int) := by omega
      have hwk : IntKind.i64.wrap ((k : Int) + 1) = (k : Int) + 1 := by rw [IntKind.wrap_i64] <;> omega
      have hkl : k < bs.length := by have := unhide HL4; omega
      have hkl4 : bs[k].ps.length = 4 := (ok_fours (unhide HOK)).at k hkl
      have HEK := hide (fun (hne : k ≠ od) (q : Pg) (hq : q ∈ bs[k].ps) => unhide HEP k hk4 hne q (by rw [Ok2.getD_in bs k hkl]; exact hq))
      clear HEP
      have HF := hide hf
      have HB := hide B
      have HCP := hide cP
      clear hf B cP
      go_wp2
      go_loopw [9] (fun v w' => ∃ n : Nat, n ≤ 4 ∧ v = .int .i64 n ∧ FsAt w' (some ⟨fbp, fop, none⟩) bs ∧ CsAt w' xb [.int .i64 p.st, .int .i64 p.k, .int .i64 p.s, .int .i64 p.a, .int .i64 p.v] ∧ Below w.heap.size w w') (fun v _ => 4 - (intOf v).toNat)
      case atStart => exact ⟨0, by omega, rfl, unhide HF, unhide HCP, unhide HB⟩
      case round =>
        obtain ⟨n, hn, rfl, hf, cP, B⟩ := hrel
        clear HF HB HCP
        by_cases h4n : n = 4
        · subst h4n
          clear HEK HLP HLI HLVE HSZ
          go_wp2
          go_roundw
          case rel => exact ⟨k + 1, by omega, by first | rfl | go_num, hf, cP, B⟩
          case measure => simp [intOf]; omega
        have hn4 : n < 4 := by omega
        have hni : (n : Int) < 4 := by omega
        have hn0 : (0 : Int) ≤ (n : Int) := by omega
        have hwn : IntKind.i64.wrap ((n : Int) + 1) = (n : Int) + 1 := by rw [IntKind.wrap_i64] <;> omega
        have hnl : n < bs[k].ps.length := by omega
        obtain ⟨fbq, foq, pbq, poq, pcq, eq, cq, -, hrq⟩ := ok_at hf (unhide HOK) k hk4
        cases eq
        have hrq2 := range_pg hrq n hnl
        have HEQ := hide (fun (hne : k ≠ od) => unhide HEK hne bs[k].ps[n] (List.getElem_mem _))
        clear hrq HEK hkl4
        generalize bs[k].ps[n] = q at *
        clear hnl
        have bQ : Below wr.heap.size wr (wr.alloc (.cells #[.int .i64 q.st, .int .i64 q.k, .int .i64 q.s, .int .i64 q.a, .int .i64 q.v] 33)) := (Below.refl _ _).alloc (Nat.le_refl _) _
        have cQ := CsAt.new wr [.int .i64 q.st, .int .i64 q.k, .int .i64 q.s, .int .i64 q.a, .int .i64 q.v] 33
        have hf2 := FsAt.below hf bQ
        have cP2 := CsAt.below cP bQ (CsAt.lt cP (by simp))
        have B2 := B.trans (bQ.mono B.size)
        have p0 := CsAt.cell cP2 0 _ rfl
        have p2 := CsAt.cell cP2 2 _ rfl
        have p3 := CsAt.cell cP2 3 _ rfl
        have q0 := CsAt.cell cQ 0 _ rfl
        have q2 := CsAt.cell cQ 2 _ rfl
        have q3 := CsAt.cell cQ 3 _ rfl
        clear hf B cP bQ
        by_cases hko : k = od
        · have hkb : ((k : Int) != (od : Int)) = false := by simp [hko]
          clear HEQ HLP HLI HLVE
          have HF2 := hide hf2
          have HP2 := hide cP2
          have HB2 := hide B2
          clear hf2 cP2 B2 cQ
          clear hko
          go_upto_region 19 with (refine wpList_load_mid rfl 33 _ rfl pbq (poq + n * 5) rfl [.int .i64 q.st, .int .i64 q.k, .int .i64 q.s, .int .i64 q.a, .int .i64 q.v] _ hrq2 Try.underlying33 rfl (unhide HSZ q) ?_)
          go_wp2
          go_roundw
          case rel => exact ⟨n + 1, by omega, by first | rfl | go_num, unhide HF2, unhide HP2, unhide HB2⟩
          case measure => simp [intOf]; omega
        have hkb : ((k : Int) != (od : Int)) = true := by simpa using (show (k : Int) ≠ (od : Int) by omega)
        by_cases hp1 : p.st = 1
        · have hpb : (p.st == 1) = true := by simpa using hp1
          by_cases hq1 : q.st = 1
          · have hqb : (q.st == 1) = true := by simpa using hq1
            have hE := unhide HEQ hko hp1 hq1
            have hlt : ¬ q.s < p.s := by omega
            have HNA := hide (fun (h : lv = true) => hE.2 (unhide HLP h))
            clear hE HEQ HLP HLVE hp1 hq1 hko
            go_upto_region 19 with (refine wpList_load_mid rfl 33 _ rfl pbq (poq + n * 5) rfl [.int .i64 q.st, .int .i64 q.k, .int .i64 q.s, .int .i64 q.a, .int .i64 q.v] _ hrq2 Try.underlying33 rfl (unhide HSZ q) ?_)
            go_wp2_with fail
            generalize wr.alloc (.cells #[.int .i64 q.st, .int .i64 q.k, .int .i64 q.s, .int .i64 q.a, .int .i64 q.v] 33) = wq at *
            generalize wr.heap.size = yb at *
            refine (unhide HLI _ hf2).mono ?_
            rintro e wL ⟨rfl, b⟩
            clear p0 q0 p2 q2 p3 q3
            replace hf2 := FsAt.below hf2 b
            replace cP2 := CsAt.below cP2 b (CsAt.lt cP2 (by simp))
            replace cQ := CsAt.below cQ b (CsAt.lt cQ (by simp))
            replace B2 := B2.trans (b.mono B2.size)
            clear b HLI
            have p3 := CsAt.cell cP2 3 _ rfl
            have q3 := CsAt.cell cQ 3 _ rfl
            have HF2 := hide hf2
            have HP2 := hide cP2
            have HB2 := hide B2
            clear hf2 cP2 B2 cQ
            cases lv
            · clear HNA
              go_wp2
              go_roundw
              case rel => exact ⟨n + 1, by omega, by first | rfl | go_num, unhide HF2, unhide HP2, unhide HB2⟩
              case measure => simp [intOf]; omega
            · have hna : (q.a == p.a) = false := by simpa using unhide HNA rfl
              clear HNA
              go_wp2
              go_roundw
              case rel => exact ⟨n + 1, by omega, by first | rfl | go_num, unhide HF2, unhide HP2, unhide HB2⟩
              case measure => simp [intOf]; omega
          · have hqb : (q.st == 1) = false := by simpa using hq1
            clear HEQ HLP HLI HLVE
            have HF2 := hide hf2
            have HP2 := hide cP2
            have HB2 := hide B2
            clear hf2 cP2 B2 cQ
            clear hq1 hp1 hko
            go_upto_region 19 with (refine wpList_load_mid rfl 33 _ rfl pbq (poq + n * 5) rfl [.int .i64 q.st, .int .i64 q.k, .int .i64 q.s, .int .i64 q.a, .int .i64 q.v] _ hrq2 Try.underlying33 rfl (unhide HSZ q) ?_)
            go_wp2
            go_roundw
            case rel => exact ⟨n + 1, by omega, by first | rfl | go_num, unhide HF2, unhide HP2, unhide HB2⟩
            case measure => simp [intOf]; omega
        · have hpb : (p.st == 1) = false := by simpa using hp1
          clear HEQ HLP HLI HLVE
          have HF2 := hide hf2
          have HP2 := hide cP2
          have HB2 := hide B2
          clear hf2 cP2 B2 cQ
          clear hp1 hko
          go_upto_region 19 with (refine wpList_load_mid rfl 33 _ rfl pbq (poq + n * 5) rfl [.int .i64 q.st, .int .i64 q.k, .int .i64 q.s, .int .i64 q.a, .int .i64 q.v] _ hrq2 Try.underlying33 rfl (unhide HSZ q) ?_)
          go_wp2
          go_roundw
          case rel => exact ⟨n + 1, by omega, by first | rfl | go_num, unhide HF2, unhide HP2, unhide HB2⟩
          case measure => simp [intOf]; omega


set_option maxRecDepth 100000 in
theorem lifted (os : Os) (started : os.Started) (H : Type) (enc : TypeId × Value → H) :
    ReturnsInHanded {} Try.checked os 9 .any (Rows.fnOldLastSpec.pre6 enc Try.prog Try.f9 Rows.fnOldLastRow.domain false) (Rows.fnOldLastSpec.post enc Try.prog Try.f9 false true false false) := by
  refine returnsInHanded_of_change (C := Try.checked) own started (by kernel_rfl) Try.func9
    (ChangeSpec.witness6 (enc := enc) (C := Try.checked) false ⟨#[], #[.slice none 0 0], []⟩ 8 (by kernel_rfl) (by kernel_rfl) (by kernel_rfl) (by kernel_rfl)) ?_
  intro W base args ds gs before hval0 hW hcnd _
  have hval : ∀ (j : Nat) t v, Try.f9.params[j]? = some t → args[j]? = some v → Value.okWide Try.prog W .any base t v := hval0
  have hW' := hW
  obtain ⟨p, q, hA0, hV, rfl, hfz, hnd⟩ := hW
  have hA : DataW.TrodAll enc Try.prog W 0 (fun _ => true) true Try.f9.params.toList args.toList ds p := hA0
  rw [Try.params9] at hA hval
  obtain ⟨v0, vs0, d0, ds0, p0, q0, hargs, rfl, rfl, h0, r0⟩ := trodAll_cons hA
  obtain ⟨rfl, rfl, rfl⟩ := trodAll_nil r0
  obtain rfl : args = #[v0] := by cases args; simp_all
  obtain ⟨rfl, rfl⟩ := trodVars_none hV
  have kk0 := h0
  have lt0 : ∀ x ∈ p0, x.block < W.heap.size := by obtain ⟨m, hm⟩ := kk0; exact DataW.trod_lt m _ _ _ hm
  obtain ⟨a0, len0, cap0, rfl⟩ := okWide_slice Try.underlying22 (hval 0 22 v0 rfl rfl)
  obtain ⟨z0, w0⟩ : ∃ zs, IsRow .u8 W a0 len0 cap0 zs := by
    obtain ⟨fuel, hf⟩ := h0
    rcases open_ints Try.underlying22 Try.underlying5 (by kernel_rfl) hf with ⟨hcs, _⟩ | ⟨x, l, c, zs, hcs, _, hl, hm, hz, _, hcell, hwz⟩
    · simp [Value.cells] at hcs
      obtain ⟨rfl, rfl, rfl⟩ := hcs
      exact ⟨[], .inl ⟨rfl, rfl, rfl, rfl⟩⟩
    · simp [Value.cells] at hcs
      obtain ⟨rfl, rfl, rfl⟩ := hcs
      exact ⟨zs, .inr ⟨_, rfl, hl, hm, by simpa using hz, hcell, hwz⟩⟩
  clear hA0
  refine (walk a0 len0 cap0 z0 W w0).mono fun e W' ⟨he, bel⟩ => ?_
  subst he
  exact ⟨_, rfl, _, _, _, [], _, [], hW', trodAll_mk1 (shut_bool Try.underlying4 _), (trodAll_cons_mk (Below.trod laidOut (by kernel_rfl) (of_decide_eq_true (by kernel_rfl)) kk0 bel lt0) trodAll_mk0), rfl, bel.frame _, fun h => by cases h⟩

set_option maxRecDepth 100000 in
theorem facts : joinedFacts Try.prog 9 Try.f9 Rows.fnOldLastSpec Rows.fnOldLastRow = true := by
  unfold joinedFacts
  refine Facts.and_t ?_ (by as_aux_lemma => kernel_rfl)
  refine Facts.and_t ?_ (by as_aux_lemma => kernel_rfl)
  refine Facts.and_t ?_ (by as_aux_lemma => kernel_rfl)
  refine Facts.and_t ?_ (by as_aux_lemma => kernel_rfl)
  refine Facts.and_t ?_ (by show (Try.prog.make == some Make.cut) = true; rw [Facts.made]; rfl)
  refine Facts.and_t ?_ (by show (false == Try.prog.liftsFinal) = true; rw [Facts.lifts]; rfl)
  refine Facts.and_t ?_ (Facts.enters)
  refine Facts.and_t ?_ (Facts.heard)
  refine Facts.and_t ?_ (rfl)
  refine Facts.and_t ?_ (by show (true == Try.prog.plainKeys) = true; rw [Facts.keys]; rfl)
  refine Facts.and_t ?_ (by as_aux_lemma => kernel_rfl)
  refine Facts.and_t ?_ (by as_aux_lemma => kernel_rfl)
  refine Facts.and_t ?_ (by as_aux_lemma => kernel_rfl)
  refine Facts.and_t ?_ (by as_aux_lemma => kernel_rfl)
  refine Facts.and_t ?_ (by as_aux_lemma => kernel_rfl)
  refine Facts.and_t ?_ (by as_aux_lemma => kernel_rfl)
  refine Facts.and_t ?_ (by as_aux_lemma => kernel_rfl)
  refine Facts.and_t ?_ (by as_aux_lemma => kernel_rfl)
  refine Facts.and_t ?_ (by as_aux_lemma => kernel_rfl)
  refine Facts.and_t ?_ (by as_aux_lemma => kernel_rfl)
  refine Facts.and_t ?_ (by as_aux_lemma => kernel_rfl)
  refine Facts.and_t ?_ (by as_aux_lemma => kernel_rfl)
  refine Facts.and_t ?_ (by as_aux_lemma => kernel_rfl)
  refine Facts.and_t ?_ (by as_aux_lemma => kernel_rfl)
  refine Facts.and_t ?_ (by as_aux_lemma => kernel_rfl)
  refine Facts.and_t ?_ (by as_aux_lemma => kernel_rfl)
  refine Facts.and_t ?_ (by as_aux_lemma => kernel_rfl)
  refine Facts.and_t ?_ (by as_aux_lemma => kernel_rfl)
  refine Facts.and_t ?_ (by as_aux_lemma => kernel_rfl)
  refine Facts.and_t ?_ (Facts.rowed)
  refine Facts.and_t ?_ (Facts.laidOut)
  kernel_rfl

theorem over : Rows.fnOldLastRow.holds Try.pinned (OpenSpec.ofChange Rows.fnOldLastSpec) :=
  OpenClaim.holds_of_wide 9 Try.f9 rfl rfl rfl rfl rfl rfl rfl ⟨rfl, rfl, rfl, rfl, rfl⟩ rfl rfl rfl rfl rfl (by kernel_rfl) Try.func9 facts
    (of_decide_eq_true (by kernel_rfl)) (by unfold Func.isWrapper; first | (rw [if_pos (by decide +kernel)]; kernel_rfl) | (rw [if_neg (by decide +kernel)]; exact ⟨rfl, rfl⟩))
    (fun os started H enc _ => (lifted os started H enc))

end Go.Proofs.Ytkikeapfjpnkgaa.OldLast
namespace Go.Proofs.Ytkikeapfjpnkgaa
theorem fnOldLast_holds : Rows.FnOldLastSaid := OldLast.over
end Go.Proofs.Ytkikeapfjpnkgaa
