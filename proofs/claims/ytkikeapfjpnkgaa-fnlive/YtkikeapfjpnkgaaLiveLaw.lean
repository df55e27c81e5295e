/-
  Of each address at most one page lives: so it does in drawn blocks. The given statement, with no condition.
-/
import Derived.Test.YtkikeapfjpnkgaaLu
import Derived.Test.YtkikeapfjpnkgaaDrL
import Derived.Test.YtkikeapfjpnkgaaWpM
import Derived.Test.YtkikeapfjpnkgaaPlE
import Derived.Test.YtkikeapfjpnkgaaDrwC
import Derived.Test.YtkikeapfjpnkgaaStM
import Derived.Test.YtkikeapfjpnkgaaStO
import Derived.Test.YtkikeapfjpnkgaaLqM
import Derived.Test.YtkikeapfjpnkgaaFacts
import Derived.Lib.SmallJoins
namespace Go.Proofs.Ytkikeapfjpnkgaa.LiveLaw
open Go.ChangeShapes Go.WideShapes Go.ChangeAt Go.RowKit Go.Shelf Go.Joins OkA Big Fl ImplB ImplF ImplS ImplT ImplU SpecA SpecB SpecC SpecD SpecW SpecX SpecF SpecG SpecH FindP FindN FindO FindD ImplW ImplX Pick Draw ClA DrB PlB LawsE StA RmA StB StD StG SpecO FindQ ImplL Pl NwA Kp DoA Ok2 PlC PlD FindD FindL FindV PlB Lu DrL
open FlB (FsN)
open Facts (own laidOut)
set_option linter.unusedVariables false
set_option linter.unusedSimpArgs false
attribute [local go_sem ↓] Go.wp_at_zero Go.wp_at_succ
theorem implLast_5 (a : Option Addr) (cap : Nat) (addr : Int) (bs : List Bk) (w : World) (hf : FsAt w a bs) (hm : bs.length ≤ 9223372036854775807) (r : Rc) (o : Bool) (hr : flR bs addr = r) (ho : flO bs addr = o) :
    Calls Try.prog 27 #[.slice a bs.length cap, .int .i64 addr] w fun e w' => e = .returned (.tuple #[.agg #[.int .i64 r.k, .int .i64 r.s, .int .i64 r.a, .int .i64 r.v], .bool o]) ∧ Below w.heap.size w w' := by
  subst hr ho
  exact implLast_any a cap addr bs w hf hm

def Lrow (bs : List Bk) (S : List Pg) (n : Nat) (M : List Int) : Prop := M.length = 7 ∧ (∀ a : Nat, a < 7 → M.getD a 0 = (cntL bs (a : Int) S : Int)) ∧ (∀ a : Int, cntL bs a S ≤ n)
theorem lr_0 (bs : List Bk) : Lrow bs [] 0 [0, 0, 0, 0, 0, 0, 0] := ⟨rfl, fun a ha => by
  have : a = 0 ∨ a = 1 ∨ a = 2 ∨ a = 3 ∨ a = 4 ∨ a = 5 ∨ a = 6 := by omega
  rcases this with rfl | rfl | rfl | rfl | rfl | rfl | rfl <;> simp [cntL], fun a => by simp [cntL]⟩
theorem lr_no {bs : List Bk} {S : List Pg} {n : Nat} {M : List Int} {p : Pg} (h : Lrow bs S n M) (hp : liveB bs p = false) : Lrow bs (S ++ [p]) (n + 1) M := by
  have e : ∀ a, cntL bs a (S ++ [p]) = cntL bs a S := fun a => by rw [cntL_push]; unfold livA; rw [hp]; simp
  exact ⟨h.1, fun a ha => by rw [e]; exact h.2.1 a ha, fun a => by rw [e]; have := h.2.2 a; omega⟩
theorem lr_yes {bs : List Bk} {S : List Pg} {n : Nat} {M : List Int} {p : Pg} {A : Nat} (h : Lrow bs S n M) (hp : liveB bs p = true) (hA : p.a = (A : Int)) (h7 : A < 7) : Lrow bs (S ++ [p]) (n + 1) (M.set A (M.getD A 0 + 1)) := by
  have e : ∀ a : Int, cntL bs a (S ++ [p]) = cntL bs a S + if (A : Int) = a then 1 else 0 := fun a => by
    rw [cntL_push]; unfold livA; rw [hp, hA]; simp
  refine ⟨by rw [List.length_set]; exact h.1, fun a ha => ?_, fun a => by rw [e]; have := h.2.2 a; split <;> omega⟩
  rw [e]
  have hl := h.1
  by_cases ea : a = A
  · subst ea
    rw [List.getD_eq_getElem?_getD, List.getElem?_set_self (by omega), if_pos rfl]
    show M.getD a 0 + 1 = _
    rw [h.2.1 a ha]; omega
  · rw [List.getD_eq_getElem?_getD, List.getElem?_set_ne (by omega), ← List.getD_eq_getElem?_getD, if_neg (by omega), h.2.1 a ha]; rfl
theorem made7 : madeCells (Value.int .i64 0).cells (7 * 1) = (isC [0, 0, 0, 0, 0, 0, 0]).toArray := by kernel_rfl
theorem seen_k (bs : List Bk) (i k : Nat) (hi : i < bs.length) (hk : k < bs[i].ps.length) : (bs.take i).flatMap (·.ps) ++ bs[i].ps.take (k + 1) = ((bs.take i).flatMap (·.ps) ++ bs[i].ps.take k) ++ [bs[i].ps[k]] := by
  rw [List.take_succ_eq_append_getElem hk, List.append_assoc]
theorem seen_i (bs : List Bk) (i : Nat) (hi : i < bs.length) (h4 : bs[i].ps.length = 4) : (bs.take i).flatMap (·.ps) ++ bs[i].ps.take 4 = (bs.take (i + 1)).flatMap (·.ps) := by
  rw [List.take_of_length_le (l := bs[i].ps) (by omega), List.take_succ_eq_append_getElem hi, List.flatMap_append]; simp
theorem live_lv {bs : List Bk} (hok : okB bs = true) {b i : Nat} (hb : b < bs.length) (hb4 : b < 4) (hi4 : i < 4) (hi : i < bs[b].ps.length) : lvR bs (b : Int) (i : Int) = liveB bs bs[b].ps[i] := by
  unfold lvR pgAt
  have h1 : inB (b : Int) 0 3 = true := by simp [inB]; omega
  have h2 : inB (i : Int) 0 3 = true := by simp [inB]; omega
  rw [hok, h1, h2, Int.toNat_natCast, Int.toNat_natCast, Ok2.getD_in bs b hb, Bool.true_and, Bool.true_and, Bool.true_and]
  rw [List.getD_eq_getElem?_getD, List.getElem?_eq_getElem hi]; rfl
/-- What a living page is. -/
theorem live_facts {bs : List Bk} (hok : okB bs = true) {b i : Nat} (hb : b < bs.length) (hi : i < bs[b].ps.length) (h : liveB bs bs[b].ps[i] = true) : bs[b].ps[i].st = 1 ∧ (∃ A : Nat, 1 ≤ A ∧ A < 7 ∧ bs[b].ps[i].a = (A : Int)) ∧ flR bs bs[b].ps[i].a = pgRc bs[b].ps[i] ∧ flO bs bs[b].ps[i].a = true := by
  have hl := live_is h
  have hr := FindP.ok_pages hok bs[b] (List.getElem_mem hb) bs[b].ps[i] (List.getElem_mem hi)
  have hrec : recB bs[b].ps[i].k bs[b].ps[i].s bs[b].ps[i].a bs[b].ps[i].v = true := by
    unfold pgB at hr
    rwa [if_pos hl.1] at hr
  simp [recB, numB, inB] at hrec
  refine ⟨hl.1, ⟨bs[b].ps[i].a.toNat, by omega, by omega, by omega⟩, ?_, ?_⟩
  · rw [flR_ok hok]
    obtain ⟨_, e1, e2, e3, e4⟩ := hl
    generalize lastR bs bs[b].ps[i].a = r at *
    obtain ⟨r1, r2, r3, r4⟩ := r
    simp only [pgRc] at *
    subst e1 e2 e3 e4
    rfl
  · refine (cnt_one hok _).1 ?_
    have h1 := cnt_le hok bs[b].ps[i].a
    have h0 : 0 < ((bs.flatMap (·.ps)).filter (livA bs bs[b].ps[i].a)).length := List.length_pos_iff.2 (List.ne_nil_of_mem (List.mem_filter.2 ⟨List.mem_flatMap.2 ⟨_, List.getElem_mem hb, List.getElem_mem hi⟩, by unfold livA; rw [h]; simp⟩))
    have : 0 < cntL bs bs[b].ps[i].a (bs.flatMap (·.ps)) := h0
    omega

set_option maxRecDepth 100000 in
set_option maxHeartbeats 8000000 in
theorem walk (a0 : Option Addr) (len0 cap0 : Nat) (z0 : List Int) (w : World) (h0 : IsRow .u8 w a0 len0 cap0 z0) :
    Calls Try.prog 7 #[.slice a0 len0 cap0] w fun e w' => e = .returned (.bool true) ∧ Below w.heap.size w w' := by
  have HD := hide (drawLive_any w a0 len0 cap0 z0 h0)
  clear h0
  go_enter Try.func7, Try.ntmps7
  by_cases hbig0 : 1048576 < (len0 : Int)
  · go_wp2
    go_ret
    exact ⟨rfl, Below.refl _ _⟩
  go_wp2_with fail
  refine (unhide HD).mono ?_
  rintro e w1 ⟨g, o, c, bs, kx, ix, rfl, F1, kx0, kx1, ix0, ix1, B⟩
  have h4 := F1.four
  have hp4 := hide F1.pgs
  have hf := F1.fs
  clear HD F1
  generalize (some ⟨g, o, none⟩ : Option Addr) = fa at *
  have HIL := hide (fun (x y : Int) (w' : World) (hF : FsAt w' fa bs) => implLive_any fa c x y bs w' hF (by omega))
  have HSL := hide (fun (w' : World) (hF : FsAt w' fa bs) => specLive_any fa c kx ix bs w' hF (by omega) (fun b hb => by have := unhide hp4 b hb; omega))
  have HFO := hide (fun (w' : World) (hF : FsAt w' fa bs) => specFlashOk_any fa c bs w' hF (by omega))
  have HLA := hide (fun (ad : Int) (r : Rc) (o : Bool) (hr : flR bs ad = r) (ho : flO bs ad = o) (w' : World) (hF : FsAt w' fa bs) => implLast_5 fa c ad bs w' hF (by omega) r o hr ho)
  have HI0 := hide (unhide HIL kx ix)
  generalize lvR bs kx ix = l0 at *
  have hnn : (l0 != l0) = false := by simp
  have hee : (l0 == l0) = true := by simp
  have HSZ := hide (fun (p : Pg) => (show (Try.prog.info? 33).map (·.size) = some (pgC p).length by rw [len_pgC]; kernel_rfl))
  have HMI := hide made_int
  go_wp2_with fail
  refine (unhide HI0 _ hf).mono ?_
  rintro e u1 ⟨rfl, b⟩
  replace hf := hf.below b
  replace B := B.trans (b.mono B.size)
  clear b
  go_wp2_with fail
  refine (unhide HSL _ hf).mono ?_
  rintro e u2 ⟨rfl, b⟩
  replace hf := hf.below b
  replace B := B.trans (b.mono B.size)
  clear b
  go_wp2_with fail
  refine (unhide HFO _ hf).mono ?_
  rintro e u3 ⟨rfl, b⟩
  replace hf := hf.below b
  replace B := B.trans (b.mono B.size)
  clear b
  cases hok : okB bs
  · go_wp2_with fail
    refine (unhide HSL _ hf).mono ?_
    rintro e u4 ⟨rfl, b⟩
    replace hf := hf.below b
    replace B := B.trans (b.mono B.size)
    clear b
    go_wp2
    go_ret
    exact ⟨rfl, B⟩
  have HL4 := hide (ok_len hok)
  have HOK := hide hok
  clear HI0 HSL HFO hok hnn hee
  clear h4
  have b0 : Below u3.heap.size u3 (u3.alloc (.cells (isC [0, 0, 0, 0, 0, 0, 0]).toArray 3)) := (Below.refl _ _).alloc (Nat.le_refl _) _
  have cM0 := CsAt.new u3 (isC [0, 0, 0, 0, 0, 0, 0]) 3
  have HC0 := hide cM0
  have HB0 := hide b0
  clear cM0 b0
  rw [unhide HL4] at HIL HLA
  rw [unhide HL4]
  go_wp2_with (refine wpList_make_big rfl 47 _ _ rfl 7 rfl rfl 3 1 8 (.int .i64 0) Try.underlying47 (unhide HMI) (by omega) (by omega) ?_; rw [made7])
  go_loopw [8] (fun v w' => ∃ (i : Nat) (M : List Int), i ≤ 4 ∧ v = .int .i64 i ∧ CsAt w' u3.heap.size (isC M) ∧ Hid (Lrow bs ((bs.take i).flatMap (·.ps)) (4 * i) M) ∧ Below u3.heap.size u3 w') (fun v _ => 4 - (intOf v).toNat)
  case atStart => exact ⟨0, _, by omega, rfl, unhide HC0, lr_0 bs, unhide HB0⟩
  case round =>
    obtain ⟨i, M, hi, rfl, cM, HM, bw⟩ := hrel
    clear HC0 HB0
    by_cases h4 : i = 4
    · subst h4
      have HMA := hide (show ∀ a : Nat, a < 7 → M.getD a 0 = (cntL bs (a : Int) (bs.flatMap (·.ps)) : Int) by have := (unhide HM).2.1; rwa [List.take_of_length_le (by have := unhide HL4; omega)] at this)
      have HML := hide (unhide HM).1
      have HCM := hide cM
      have hf3 := hf.below bw
      have hml : u3.heap.size < wr.heap.size := CsAt.lt cM (by rw [len_isC, unhide HML]; omega)
      replace B := B.trans (bw.mono B.size)
      have hmu : u3.heap.size = u3.heap.size := rfl
      clear hmu HM cM bw hf
      generalize u3.heap.size = mb at *
      generalize wr = w3 at *
      go_wp2
      go_loopw [13] (fun v w' => ∃ i : Nat, i ≤ 6 ∧ v = .int .i64 ((i : Int) + 1) ∧ Below w3.heap.size w3 w') (fun v _ => 7 - (intOf v).toNat)
      case atStart => exact ⟨0, by omega, rfl, Below.refl _ _⟩
      case round =>
        obtain ⟨i, hi, rfl, bw⟩ := hrel
        by_cases h6 : i = 6
        · subst h6
          replace B := B.trans (bw.mono B.size)
          clear bw HMA HML HCM HIL HLA hf3
          go_wp2
          go_ret
          exact ⟨rfl, B⟩
        have hi6 : (i : Int) + 1 ≤ 6 := by omega
        have hi0 : (0 : Int) ≤ (i : Int) + 1 := by omega
        have hi7 : (i : Int) + 1 < 7 := by omega
        have hwi : IntKind.i64.wrap ((i : Int) + 1 + 1) = (i : Int) + 1 + 1 := by rw [IntKind.wrap_i64] <;> omega
        have hcA := unhide HMA (i + 1) (by omega)
        have h1 := cnt_le (unhide HOK) ((i + 1 : Nat) : Int)
        have h2 := cnt_one (unhide HOK) ((i + 1 : Nat) : Int)
        have W1 : w3.cell? ⟨mb, i + 1, none⟩ = some (.int .i64 (M.getD (i + 1) 0)) := by have := isC_at (unhide HCM).cells (i + 1) (by rw [unhide HML]; omega); rw [Nat.zero_add] at this; exact this
        rw [hcA] at W1
        have e1 : ((i + 1 : Nat) : Int) = (i : Int) + 1 := by omega
        rw [e1] at h1 h2 W1
        obtain ⟨r9, hr9⟩ : ∃ r, flR bs ((i : Int) + 1) = r := ⟨_, rfl⟩
        obtain ⟨o9, ho9⟩ : ∃ r, flO bs ((i : Int) + 1) = r := ⟨_, rfl⟩
        have HQ := hide (unhide HLA ((i : Int) + 1) r9 o9 hr9 ho9)
        rw [ho9] at h2
        clear hr9 ho9 HLA HIL hcA e1 HMA HML HCM
        have hf4 := hf3.below bw
        go_wp2_with fail
        refine (unhide HQ _ hf4).mono ?_
        rintro e w5 ⟨rfl, b⟩
        have bw2 := bw.trans (b.mono bw.size)
        clear HQ b
        have X1 := (bw2.cell (p := ⟨mb, i + 1, none⟩) hml).trans W1
        have hml5 : mb < w5.heap.size := Nat.lt_of_lt_of_le hml bw2.size
        have bR : Below w5.heap.size w5 (w5.alloc (.cells #[.int .i64 r9.k, .int .i64 r9.s, .int .i64 r9.a, .int .i64 r9.v] 25)) := (Below.refl _ _).alloc (Nat.le_refl _) _
        have X2 := (bR.cell (p := ⟨mb, i + 1, none⟩) hml5).trans X1
        have bw3 := bw2.trans (bR.mono bw2.size)
        have HB3 := hide bw3
        clear bR bw bw2 bw3 hf4 hf3 W1 X1
        generalize cntL bs ((i : Int) + 1) (bs.flatMap (·.ps)) = n9 at *
        cases o9
        · obtain rfl : n9 = 0 := by have := h2.1; rcases Nat.lt_or_ge n9 1 with q | q; omega; exact absurd (this (by omega)) (by simp)
          clear h1 h2
          go_wp2
          go_roundw
          case rel =>
            repeat apply Exists.intro
            exact ⟨⟨i + 1, by omega, by first | rfl | (rw [show ((i + 1 : Nat) : Int) = (i : Int) + 1 by omega]; first | rfl | go_num), unhide HB3⟩, rfl⟩
          case measure => simp [intOf]; omega
        · obtain rfl : n9 = 1 := h2.2 rfl
          clear h1 h2
          go_wp2
          go_roundw
          case rel =>
            repeat apply Exists.intro
            exact ⟨⟨i + 1, by omega, by first | rfl | (rw [show ((i + 1 : Nat) : Int) = (i : Int) + 1 by omega]; first | rfl | go_num), unhide HB3⟩, rfl⟩
          case measure => simp [intOf]; omega
    have hi4 : i < 4 := by omega
    have hii : (i : Int) < 4 := by omega
    have hi0 : (0 : Int) ≤ (i : Int) := by omega
    have hwi : IntKind.i64.wrap ((i : Int) + 1) = (i : Int) + 1 := by rw [IntKind.wrap_i64] <;> omega
    have hil : i < bs.length := by have := unhide HL4; omega
    have HPL := hide (show bs[i].ps.length = 4 from (ok_fours (unhide HOK)).at i hil)
    have HM0 : Hid (Lrow bs ((bs.take i).flatMap (·.ps) ++ bs[i].ps.take 0) (4 * i + 0) M) := by show Lrow _ _ _ _; rw [List.take_zero, List.append_nil]; exact unhide HM
    have HC := hide cM
    have HB := hide bw
    clear cM bw HM
    go_wp2
    go_loopw [9] (fun v w' => ∃ (k : Nat) (M : List Int), k ≤ 4 ∧ v = .int .i64 k ∧ CsAt w' u3.heap.size (isC M) ∧ Hid (Lrow bs ((bs.take i).flatMap (·.ps) ++ bs[i].ps.take k) (4 * i + k) M) ∧ Below u3.heap.size u3 w') (fun v _ => 4 - (intOf v).toNat)
    case atStart => exact ⟨0, M, by omega, rfl, unhide HC, HM0, unhide HB⟩
    case round =>
      clear HC HB HM0
      obtain ⟨k, M, hk, rfl, cM, HM, bw⟩ := hrel
      by_cases h4k : k = 4
      · subst h4k
        have HM2 : Hid (Lrow bs ((bs.take (i + 1)).flatMap (·.ps)) (4 * (i + 1)) M) := by have := unhide HM; rw [seen_i bs i hil (unhide HPL)] at this; exact this
        clear HM
        go_wp2
        go_roundw
        case rel => exact ⟨i + 1, M, by omega, by first | rfl | go_num, cM, HM2, bw⟩
        case measure => simp [intOf]; omega
      have hk4 : k < 4 := by omega
      have hki : (k : Int) < 4 := by omega
      have hk0 : (0 : Int) ≤ (k : Int) := by omega
      have hwk : IntKind.i64.wrap ((k : Int) + 1) = (k : Int) + 1 := by rw [IntKind.wrap_i64] <;> omega
      have hkl : k < bs[i].ps.length := by have := unhide HPL; omega
      have hlv := live_lv (unhide HOK) hil hi4 hk4 hkl
      have HQ := hide (unhide HIL (i : Int) (k : Int))
      rw [hlv] at HQ
      have HLF := hide (live_facts (unhide HOK) hil hkl)
      have HSK := hide (seen_k bs i k hil hkl)
      have HML := hide (unhide HM).1
      have hf2 := hf.below bw
      go_wp2_with fail
      refine (unhide HQ _ hf2).mono ?_
      rintro e w5 ⟨rfl, b⟩
      replace cM := CsAt.below cM b (CsAt.lt cM (by rw [len_isC, unhide HML]; omega))
      replace bw := bw.trans (b.mono bw.size)
      clear b hf2 HQ hlv
      cases hlB : liveB bs bs[i].ps[k]
      · have HM2 : Hid (Lrow bs ((bs.take i).flatMap (·.ps) ++ bs[i].ps.take (k + 1)) (4 * i + (k + 1)) M) := by show Lrow _ _ _ _; rw [unhide HSK]; exact lr_no (unhide HM) hlB
        clear HM HSK HLF hlB
        go_wp2
        go_roundw
        case rel => exact ⟨k + 1, M, by omega, by first | rfl | go_num, cM, HM2, bw⟩
        case measure => simp [intOf]; omega
      · obtain ⟨hst, ⟨A, hA1, hA7, hA⟩, hfr, hfo⟩ := unhide HLF hlB
        have HM2 : Hid (Lrow bs ((bs.take i).flatMap (·.ps) ++ bs[i].ps.take (k + 1)) (4 * i + (k + 1)) (M.set A (M.getD A 0 + 1))) := by show Lrow _ _ _ _; rw [unhide HSK]; exact lr_yes (unhide HM) hlB hA hA7
        have hmb := (unhide HM).2.1 A hA7
        have hmn := (unhide HM).2.2 (A : Int)
        have HQL := hide (unhide HLA _ _ _ hfr hfo)
        clear HM HSK HLF hlB hfr hfo HLA HIL
        obtain ⟨fb, fo, pb, po, pc, ep, c0, -, hr⟩ := ok_at (hf.below bw) (unhide HOK) i hi4
        subst ep
        have hq := range_pg hr k hkl
        clear hr
        generalize bs[i].ps[k] = p at *
        have hst2 := hide hst
        have hA2 := hide hA
        clear hst hA hkl
        generalize hm9 : M.getD A 0 = m9 at *
        have HM9 := hide hm9
        clear hm9
        have hm0 : 0 ≤ m9 ∧ m9 ≤ 100 := by omega
        clear hmb hmn
        dsimp only [pgRc] at HQL
        have hwm : IntKind.i64.wrap (m9 + 1) = m9 + 1 := by rw [IntKind.wrap_i64] <;> omega
        have hMl : 0 < (isC M).length := by rw [len_isC, unhide HML]; omega
        have hms : u3.heap.size < w5.heap.size := CsAt.lt cM hMl
        have bP : Below w5.heap.size w5 (w5.alloc (.cells #[.int .i64 p.st, .int .i64 p.k, .int .i64 p.s, .int .i64 p.a, .int .i64 p.v] 33)) := (Below.refl _ _).alloc (Nat.le_refl _) _
        have cP := CsAt.new w5 [.int .i64 p.st, .int .i64 p.k, .int .i64 p.s, .int .i64 p.a, .int .i64 p.v] 33
        have hpl : w5.heap.size < (w5.alloc (.cells #[.int .i64 p.st, .int .i64 p.k, .int .i64 p.s, .int .i64 p.a, .int .i64 p.v] 33)).heap.size := by simp
        replace cM := CsAt.below cM bP hms
        replace bw := bw.trans (bP.mono bw.size)
        clear bP
        go_upto_region 16 with (refine wpList_load_mid rfl 33 _ rfl pb (po + k * 5) rfl [.int .i64 p.st, .int .i64 p.k, .int .i64 p.s, .int .i64 p.a, .int .i64 p.v] _ hq Try.underlying33 rfl (unhide HSZ p) ?_)
        generalize w5.alloc (.cells #[.int .i64 p.st, .int .i64 p.k, .int .i64 p.s, .int .i64 p.a, .int .i64 p.v] 33) = w6 at *
        have hne5 : w5.heap.size ≠ u3.heap.size := by omega
        generalize w5.heap.size = px at *
        clear hq c0
        have p3 := CsAt.cell cP 3 _ rfl
        rw [unhide hA2] at p3
        have hA0 : (0 : Int) ≤ (A : Int) := by omega
        have hA7i : (A : Int) < 7 := by omega
        refine wp_region_noPanic ?_
        refine wp_region_held_drew (S := fun w' => Kept [u3.heap.size] w6 w') (by kernel_rfl) (Kept.refl _ _).drew (fun hHeld => ?_)
        replace cM := OrdL.ckept cM (L := []) (Kept.refl [] w6).drew (CsAt.lt cM (by first | (simp; done) | assumption)) (by simp)
        generalize w6.drew = y0 at *
        have z0 := hHeld.size
        refine takeL 0 (.slice (some ⟨u3.heap.size, 0, none⟩) 7 7) rfl (by kernel_rfl) (by kernel_rfl) (by kernel_rfl) (fun _ _ _ h => h) (Or.inl ⟨rfl, fun _ _ => rfl⟩) hHeld ?_
        try simp only [Act.put, List.setIfInBounds_toArray, List.set_cons_zero, List.set_cons_succ]
        refine takeL 1 (.pointer (some ⟨px, 1, none⟩)) rfl (by kernel_rfl) (by kernel_rfl) (by kernel_rfl) (fun _ _ _ h => h) (Or.inl ⟨rfl, fun w9 hSw => by go_simp⟩) hHeld ?_
        try simp only [Act.put, List.setIfInBounds_toArray, List.set_cons_zero, List.set_cons_succ]
        refine takeL 2 (.pointer (some ⟨px, 3, none⟩)) rfl (by kernel_rfl) (by kernel_rfl) (by kernel_rfl) (fun _ _ _ h => h) (Or.inl ⟨rfl, fun w9 hSw => by go_simp⟩) hHeld ?_
        try simp only [Act.put, List.setIfInBounds_toArray, List.set_cons_zero, List.set_cons_succ]
        refine takeL 3 (.int .i64 (A : Int)) rfl (by kernel_rfl) (by kernel_rfl) (by kernel_rfl) (fun _ _ _ h => h) (Or.inl ⟨rfl, fun w9 hSw => by have hc := (hSw.cell (b := px) (3) (by omega) (by simp; omega)).trans p3; go_simp⟩) hHeld ?_
        try simp only [Act.put, List.setIfInBounds_toArray, List.set_cons_zero, List.set_cons_succ]
        refine takeL 4 (.slice (some ⟨u3.heap.size, 0, none⟩) 7 7) rfl (by kernel_rfl) (by kernel_rfl) (by kernel_rfl) (fun _ _ _ h => h) (Or.inl ⟨rfl, fun _ _ => rfl⟩) hHeld ?_
        try simp only [Act.put, List.setIfInBounds_toArray, List.set_cons_zero, List.set_cons_succ]
        refine takeL 5 (.pointer (some ⟨px, 1, none⟩)) rfl (by kernel_rfl) (by kernel_rfl) (by kernel_rfl) (fun _ _ _ h => h) (Or.inl ⟨rfl, fun w9 hSw => by go_simp⟩) hHeld ?_
        try simp only [Act.put, List.setIfInBounds_toArray, List.set_cons_zero, List.set_cons_succ]
        refine takeL 6 (.pointer (some ⟨px, 3, none⟩)) rfl (by kernel_rfl) (by kernel_rfl) (by kernel_rfl) (fun _ _ _ h => h) (Or.inl ⟨rfl, fun w9 hSw => by go_simp⟩) hHeld ?_
        try simp only [Act.put, List.setIfInBounds_toArray, List.set_cons_zero, List.set_cons_succ]
        refine takeL 7 (.int .i64 (A : Int)) rfl (by kernel_rfl) (by kernel_rfl) (by kernel_rfl) (fun _ _ _ h => h) (Or.inl ⟨rfl, fun w9 hSw => by have hc := (hSw.cell (b := px) (3) (by omega) (by simp; omega)).trans p3; go_simp⟩) hHeld ?_
        try simp only [Act.put, List.setIfInBounds_toArray, List.set_cons_zero, List.set_cons_succ]
        refine takeL 8 (.pointer (some ⟨u3.heap.size, A, none⟩)) rfl (by kernel_rfl) (by kernel_rfl) (by kernel_rfl) (fun _ _ _ h => h) (Or.inl ⟨rfl, fun w9 hSw => by go_simp⟩) hHeld ?_
        try simp only [Act.put, List.setIfInBounds_toArray, List.set_cons_zero, List.set_cons_succ]
        refine oneL 9 rfl (by kernel_rfl) rfl (fun K hK => ?_)
        have cq := isC_at cM.cells A (by rw [unhide HML]; exact hA7)
        rw [Nat.zero_add, unhide HM9] at cq
        go_simp
        refine hK.out _ _ hHeld (fun hHeld => ?_)
        clear hK K cq
        try simp only [Act.put, List.setIfInBounds_toArray, List.set_cons_zero, List.set_cons_succ]
        refine takeL 10 (.int .i64 (m9 + 1)) rfl (by kernel_rfl) (by kernel_rfl) (by kernel_rfl) (fun _ _ _ h => h) (Or.inl ⟨rfl, fun w9 hSw => by go_simp⟩) hHeld ?_
        try simp only [Act.put, List.setIfInBounds_toArray, List.set_cons_zero, List.set_cons_succ]
        refine takeL 11 (.pointer (some ⟨u3.heap.size, A, none⟩)) rfl (by kernel_rfl) (by kernel_rfl) (by kernel_rfl) (fun _ _ _ h => h) (Or.inl ⟨rfl, fun w9 hSw => by go_simp⟩) hHeld ?_
        try simp only [Act.put, List.setIfInBounds_toArray, List.set_cons_zero, List.set_cons_succ]
        refine oneL 12 rfl (by kernel_rfl) rfl (fun K hK => ?_)
        have cq := isC_at cM.cells A (by rw [unhide HML]; exact hA7)
        rw [Nat.zero_add] at cq
        have fq := cM.frozen A (by rw [len_isC, unhide HML]; exact hA7)
        go_simp
        refine hK.out _ _ (hHeld.setCell (p := ⟨u3.heap.size, A, none⟩) (.inl (by simp)) _) (fun hHeld => ?_)
        clear hK K
        try simp only [Act.put, List.setIfInBounds_toArray, List.set_cons_zero, List.set_cons_succ]
        have cM2 := cM.setInt (k := A) (by rw [unhide HML]; exact hA7) (m9 + 1)
        clear cM cq fq
        generalize y0.setCell ⟨u3.heap.size, A, none⟩ (.int .i64 (m9 + 1)) = y9 at *
        refine wpAnyH_done (by kernel_rfl) ?_ _
        refine NoPanic.normal ?_
        have K2 := bw.trans (Kept.below hHeld (B := u3.heap.size) (fun z hz => by simp at hz; subst hz; exact Nat.le_refl _) bw.size)
        have cP2 := OrdL.ckept cP hHeld hpl (by simp; omega)
        have hpl2 := Nat.lt_of_lt_of_le hpl hHeld.size
        clear hHeld cP p3 z0 bw hpl
        have c2 := CsAt.cell cP2 3 _ rfl
        rw [unhide hA2] at c2
        skip
        have hf7 := hf.below K2
        have HQ7 := hide (unhide HQL _ hf7)
        clear c2
        have q0 := CsAt.cell cP2 0 _ rfl
        have q3 := CsAt.cell cP2 3 _ rfl
        rw [unhide hst2] at q0
        go_wp2_with fail
        refine (unhide HQ7).mono ?_
        rintro e w8 ⟨rfl, b⟩
        clear q0 q3 hf7 HQ7 HQL
        replace cM2 := CsAt.below cM2 b (CsAt.lt cM2 (by rw [len_isC, List.length_set, unhide HML]; omega))
        replace cP2 := CsAt.below cP2 b hpl2
        replace K2 := K2.trans (b.mono K2.size)
        have hpl3 := Nat.lt_of_lt_of_le hpl2 b.size
        have hml8 : u3.heap.size < w8.heap.size := CsAt.lt cM2 (by rw [len_isC, List.length_set, unhide HML]; omega)
        clear b
        have bR : Below w8.heap.size w8 (w8.alloc (.cells #[.int .i64 p.k, .int .i64 p.s, .int .i64 p.a, .int .i64 p.v] 25)) := (Below.refl _ _).alloc (Nat.le_refl _) _
        have cR := CsAt.new w8 [.int .i64 p.k, .int .i64 p.s, .int .i64 p.a, .int .i64 p.v] 25
        have cM3 := CsAt.below cM2 bR hml8
        have cP3 := CsAt.below cP2 bR hpl3
        have K3 := K2.trans (bR.mono K2.size)
        have q0 := CsAt.cell cP3 0 _ rfl
        have q1 := CsAt.cell cP3 1 _ rfl
        have q2 := CsAt.cell cP3 2 _ rfl
        have q3 := CsAt.cell cP3 3 _ rfl
        have q4 := CsAt.cell cP3 4 _ rfl
        have r0 := CsAt.cell cR 0 _ rfl
        have r1 := CsAt.cell cR 1 _ rfl
        have r2 := CsAt.cell cR 2 _ rfl
        have r3 := CsAt.cell cR 3 _ rfl
        rw [unhide hst2] at q0
        have HC3 := hide cM3
        have HK3 := hide K3
        clear bR cM2 cP2 K2 cM3 cP3 K3 cR
        go_wp2
        go_roundw
        case rel => exact ⟨k + 1, _, by omega, by first | rfl | go_num, unhide HC3, HM2, unhide HK3⟩
        case measure => simp [intOf]; omega


set_option maxRecDepth 100000 in
theorem lifted (os : Os) (started : os.Started) (H : Type) (enc : TypeId × Value → H) :
    ReturnsInHanded {} Try.checked os 7 .any (Rows.fnLiveSpec.pre6 enc Try.prog Try.f7 Rows.fnLiveRow.domain false) (Rows.fnLiveSpec.post enc Try.prog Try.f7 false true false false) := by
  refine returnsInHanded_of_change (C := Try.checked) own started (by kernel_rfl) Try.func7
    (ChangeSpec.witness6 (enc := enc) (C := Try.checked) false ⟨#[], #[.slice none 0 0], []⟩ 8 (by kernel_rfl) (by kernel_rfl) (by kernel_rfl) (by kernel_rfl)) ?_
  intro W base args ds gs before hval0 hW hcnd _
  have hval : ∀ (j : Nat) t v, Try.f7.params[j]? = some t → args[j]? = some v → Value.okWide Try.prog W .any base t v := hval0
  have hW' := hW
  obtain ⟨p, q, hA0, hV, rfl, hfz, hnd⟩ := hW
  have hA : DataW.TrodAll enc Try.prog W 0 (fun _ => true) true Try.f7.params.toList args.toList ds p := hA0
  rw [Try.params7] at hA hval
  obtain ⟨v0, vs0, d0, ds0, p0, q0, hargs, rfl, rfl, h0, r0⟩ := trodAll_cons hA
  obtain ⟨rfl, rfl, rfl⟩ := trodAll_nil r0
  obtain rfl : args = #[v0] := by cases args; simp_all
  obtain ⟨rfl, rfl⟩ := trodVars_none hV
  have kk0 := h0
  have lt0 : ∀ x ∈ p0, x.block < W.heap.size := by obtain ⟨m, hm⟩ := kk0; exact DataW.trod_lt m _ _ _ hm
  obtain ⟨a0, len0, cap0, rfl⟩ := okWide_slice Try.underlying22 (hval 0 22 v0 rfl rfl)
  obtain ⟨z0, w0⟩ : ∃ zs, IsRow .u8 W a0 len0 cap0 zs := by
    obtain ⟨fuel, hf⟩ := h0
    rcases open_ints Try.underlying22 Try.underlying5 (by kernel_rfl) hf with ⟨hcs, _⟩ | ⟨x, l, c, zs, hcs, _, hl, hm, hz, _, hcell, hwz⟩
    · simp [Value.cells] at hcs
      obtain ⟨rfl, rfl, rfl⟩ := hcs
      exact ⟨[], .inl ⟨rfl, rfl, rfl, rfl⟩⟩
    · simp [Value.cells] at hcs
      obtain ⟨rfl, rfl, rfl⟩ := hcs
      exact ⟨zs, .inr ⟨_, rfl, hl, hm, by simpa using hz, hcell, hwz⟩⟩
  clear hA0
  refine (walk a0 len0 cap0 z0 W w0).mono fun e W' ⟨he, bel⟩ => ?_
  subst he
  exact ⟨_, rfl, _, _, _, [], _, [], hW', trodAll_mk1 (shut_bool Try.underlying4 _), (trodAll_cons_mk (Below.trod laidOut (by kernel_rfl) (of_decide_eq_true (by kernel_rfl)) kk0 bel lt0) trodAll_mk0), rfl, bel.frame _, fun h => by cases h⟩

set_option maxRecDepth 100000 in
theorem facts : joinedFacts Try.prog 7 Try.f7 Rows.fnLiveSpec Rows.fnLiveRow = true := by
  unfold joinedFacts
  refine Facts.and_t ?_ (by as_aux_lemma => kernel_rfl)
  refine Facts.and_t ?_ (by as_aux_lemma => kernel_rfl)
  refine Facts.and_t ?_ (by as_aux_lemma => kernel_rfl)
  refine Facts.and_t ?_ (by as_aux_lemma => kernel_rfl)
  refine Facts.and_t ?_ (by show (Try.prog.make == some Make.cut) = true; rw [Facts.made]; rfl)
  refine Facts.and_t ?_ (by show (false == Try.prog.liftsFinal) = true; rw [Facts.lifts]; rfl)
  refine Facts.and_t ?_ (Facts.enters)
  refine Facts.and_t ?_ (Facts.heard)
  refine Facts.and_t ?_ (rfl)
  refine Facts.and_t ?_ (by show (true == Try.prog.plainKeys) = true; rw [Facts.keys]; rfl)
  refine Facts.and_t ?_ (by as_aux_lemma => kernel_rfl)
  refine Facts.and_t ?_ (by as_aux_lemma => kernel_rfl)
  refine Facts.and_t ?_ (by as_aux_lemma => kernel_rfl)
  refine Facts.and_t ?_ (by as_aux_lemma => kernel_rfl)
  refine Facts.and_t ?_ (by as_aux_lemma => kernel_rfl)
  refine Facts.and_t ?_ (by as_aux_lemma => kernel_rfl)
  refine Facts.and_t ?_ (by as_aux_lemma => kernel_rfl)
  refine Facts.and_t ?_ (by as_aux_lemma => kernel_rfl)
  refine Facts.and_t ?_ (by as_aux_lemma => kernel_rfl)
  refine Facts.and_t ?_ (by as_aux_lemma => kernel_rfl)
  refine Facts.and_t ?_ (by as_aux_lemma => kernel_rfl)
  refine Facts.and_t ?_ (by as_aux_lemma => kernel_rfl)
  refine Facts.and_t ?_ (by as_aux_lemma => kernel_rfl)
  refine Facts.and_t ?_ (by as_aux_lemma => kernel_rfl)
  refine Facts.and_t ?_ (by as_aux_lemma => kernel_rfl)
  refine Facts.and_t ?_ (by as_aux_lemma => kernel_rfl)
  refine Facts.and_t ?_ (by as_aux_lemma => kernel_rfl)
  refine Facts.and_t ?_ (by as_aux_lemma => kernel_rfl)
  refine Facts.and_t ?_ (by as_aux_lemma => kernel_rfl)
  refine Facts.and_t ?_ (Facts.rowed)
  refine Facts.and_t ?_ (Facts.laidOut)
  kernel_rfl

theorem over : Rows.fnLiveRow.holds Try.pinned (OpenSpec.ofChange Rows.fnLiveSpec) :=
  OpenClaim.holds_of_wide 7 Try.f7 rfl rfl rfl rfl rfl rfl rfl ⟨rfl, rfl, rfl, rfl, rfl⟩ rfl rfl rfl rfl rfl (by kernel_rfl) Try.func7 facts
    (of_decide_eq_true (by kernel_rfl)) (by unfold Func.isWrapper; first | (rw [if_pos (by decide +kernel)]; kernel_rfl) | (rw [if_neg (by decide +kernel)]; exact ⟨rfl, rfl⟩))
    (fun os started H enc _ => (lifted os started H enc))

end Go.Proofs.Ytkikeapfjpnkgaa.LiveLaw
namespace Go.Proofs.Ytkikeapfjpnkgaa
theorem fnLive_holds : Rows.FnLiveSaid := LiveLaw.over
end Go.Proofs.Ytkikeapfjpnkgaa
