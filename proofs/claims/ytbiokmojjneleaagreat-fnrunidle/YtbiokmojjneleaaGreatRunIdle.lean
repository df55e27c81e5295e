/-
  What cannot be changes nothing: so it does not behind a drawn play. The given statement, with no condition.
-/
import Derived.Test.YtbiokmojjneleaaGreatRcQ
import Derived.Test.YtbiokmojjneleaaGreatRbS
import Derived.Test.YtbiokmojjneleaaGreatHaT
import Derived.Test.YtbiokmojjneleaaGreatFacts
import Derived.Lib.SmallJoins
namespace Go.Proofs.YtbiokmojjneleaaGreat.RunIdle
open Go.ChangeShapes Go.WideShapes Go.ChangeAt Go.RowKit Go.Shelf Go.Joins OkA Big Fl ImplB ImplF ImplS ImplT ImplU SpecA SpecB SpecC SpecD SpecW SpecX SpecF SpecG SpecH FindP FindN FindO FindD ImplW ImplX Pick Draw ClA DrB PlB AlX DpX Pl FindL StA StB StC StD StE StF StG SpS SpT Sv LqI LqF Px NwA Sn9 ImplL Kp DoA RmA WrA FlA PlA SpU ToA QuE LawT MkN Ct Cu Ps Py Pz PaA EvL EvS PrA Nf Nr Rw PyE 
open FlB (FsN)
open StN (SN)
open Facts (own laidOut)
set_option linter.unusedVariables false
set_option linter.unusedSimpArgs false
attribute [local go_sem ↓] Go.wp_at_zero Go.wp_at_succ

set_option maxRecDepth 100000 in
set_option maxHeartbeats 8000000 in
theorem walk (a0 : Option Addr) (len0 cap0 : Nat) (z0 : List Int) (w : World) (h0 : IsRow .u8 w a0 len0 cap0 z0) :
    Calls Tryz.prog 13 #[.slice a0 len0 cap0] w fun e w' => e = .returned (.bool true) ∧ Below w.heap.size w w' := by
  have HD := hide (drawRun_any w a0 len0 cap0 z0 h0)
  clear h0
  go_enter Tryz.func13, Tryz.ntmps13
  by_cases hbig0 : 1048576 < (len0 : Int)
  · go_wp2
    go_ret
    exact ⟨rfl, Below.refl _ _⟩
  go_wp2_with fail
  refine (unhide HD).mono ?_
  rintro e w1 ⟨ea, ec, L, rfl, hE, hl, hin, hac, B⟩
  clear HD
  have HIN := hide hin
  have HEV := hide (fun x hx => (hin x hx).ok)
  have HLC := hide hl
  have HAC := hide hac
  clear hin hl hac
  by_cases h60 : 60 < L.length
  · have hl61 : L.length ≤ 61 := by have := unhide HLC; omega
    have HI := hide (fun (w' : World) (h : EsAt w' ea L) => iRunN (cap := ec) L w' h (unhide HEV) (by omega) h60)
    have HS := hide (fun (w' : World) (h : EsAt w' ea L) => sRunN (cap := ec) L w' h (by omega) h60)
    clear HIN HEV HLC HAC h60 hl61
    go_wp2_with fail
    refine (unhide HI _ hE).mono ?_
    rintro e u1 ⟨rfl, b⟩
    replace hE := hE.below b
    replace B := B.trans (b.mono B.size)
    clear b
    have b : Below u1.heap.size u1 (u1.alloc (.cells #[.slice none 0 0, .slice none 0 0] 26)) := (Below.refl _ _).alloc (Nat.le_refl _) _
    have bs := Bx.new u1 (.slice none 0 0) (.slice none 0 0) 26
    replace hE := hE.below b
    replace B := B.trans (b.mono B.size)
    clear b
    have bs0 := bs.c0
    have bs1 := bs.c1
    go_wp2_with fail
    generalize u1.alloc (.cells #[.slice none 0 0, .slice none 0 0] 26) = v2 at *
    generalize u1.heap.size = bsb at *
    refine (unhide HS _ hE).mono ?_
    rintro e u3 ⟨rfl, b⟩
    replace hE := hE.below b
    replace bs := bs.below b
    clear bs0 bs1
    have bs0 := bs.c0
    have bs1 := bs.c1
    replace B := B.trans (b.mono B.size)
    clear b
    have b : Below u3.heap.size u3 (u3.alloc (.cells #[.slice none 0 0, .slice none 0 0] 26)) := (Below.refl _ _).alloc (Nat.le_refl _) _
    have bw := Bx.new u3 (.slice none 0 0) (.slice none 0 0) 26
    replace hE := hE.below b
    replace bs := bs.below b
    clear bs0 bs1
    have bs0 := bs.c0
    have bs1 := bs.c1
    replace B := B.trans (b.mono B.size)
    clear b
    have bw0 := bw.c0
    have bw1 := bw.c1
    go_wp2_with fail
    generalize u3.alloc (.cells #[.slice none 0 0, .slice none 0 0] 26) = v4 at *
    generalize u3.heap.size = bwb at *
    refine (lqNil _).mono ?_
    rintro e u5 ⟨rfl, b⟩
    replace hE := hE.below b
    replace bs := bs.below b
    clear bs0 bs1
    have bs0 := bs.c0
    have bs1 := bs.c1
    replace bw := bw.below b
    clear bw0 bw1
    have bw0 := bw.c0
    have bw1 := bw.c1
    replace B := B.trans (b.mono B.size)
    clear b
    go_wp2_with fail
    refine (lqNil _).mono ?_
    rintro e u6 ⟨rfl, b⟩
    replace hE := hE.below b
    replace bs := bs.below b
    clear bs0 bs1
    have bs0 := bs.c0
    have bs1 := bs.c1
    replace bw := bw.below b
    clear bw0 bw1
    have bw0 := bw.c0
    have bw1 := bw.c1
    replace B := B.trans (b.mono B.size)
    clear b
    go_wp2
    go_ret
    exact ⟨rfl, B⟩
  have hl60 : L.length ≤ 60 := by omega
  clear h60
  have HI := hide (fun (w' : World) (h : EsAt w' ea L) => iRunI (cap := ec) L w' h (unhide HEV) hl60)
  have HS := hide (fun (w' : World) (h : EsAt w' ea L) => sRun (cap := ec) L w' h hl60)
  have HST := hide (runP_st L)
  generalize runP L = P at *
  obtain ⟨BB, KK⟩ := P
  go_wp2_with fail
  refine (unhide HI _ hE).mono ?_
  rintro e u1 ⟨fa, c1, da, c2, rfl, hI, b⟩
  replace hE := hE.below b
  replace B := B.trans (b.mono B.size)
  clear b
  have hs : SO _ fa da BB KK := so_of hI (unhide HST)
  obtain ⟨loI, hiI, hJ, hlI⟩ : ∃ lo hi, InT u1 lo hi (.slice fa 4 c1) (.slice da 6 c2) true BB KK ∧ hi ≤ u1.heap.size := ⟨_, _, hI, Nat.le_refl _⟩
  clear hI
  have b : Below u1.heap.size u1 (u1.alloc (.cells #[.slice fa 4 c1, .slice da 6 c2] 26)) := (Below.refl _ _).alloc (Nat.le_refl _) _
  have bs := Bx.new u1 (.slice fa 4 c1) (.slice da 6 c2) 26
  replace hE := hE.below b
  replace hs := hs.below b
  replace hJ := hJ.below b
  replace hlI := Nat.le_trans hlI b.size
  replace B := B.trans (b.mono B.size)
  clear b
  have bs0 := bs.c0
  have bs1 := bs.c1
  go_wp2_with fail
  generalize u1.alloc (.cells #[.slice fa 4 c1, .slice da 6 c2] 26) = v2 at *
  generalize u1.heap.size = bsb at *
  refine (unhide HS _ hE).mono ?_
  rintro e u3 ⟨fw, c3, dw, c4, rfl, hw, b⟩
  replace hE := hE.below b
  replace hs := hs.below b
  replace hJ := hJ.below b
  replace bs := bs.below b
  clear bs0 bs1
  have bs0 := bs.c0
  have bs1 := bs.c1
  replace hlI := Nat.le_trans hlI b.size
  replace B := B.trans (b.mono B.size)
  clear b
  have b : Below u3.heap.size u3 (u3.alloc (.cells #[.slice fw 4 c3, .slice dw 6 c4] 26)) := (Below.refl _ _).alloc (Nat.le_refl _) _
  have bw := Bx.new u3 (.slice fw 4 c3) (.slice dw 6 c4) 26
  replace hE := hE.below b
  replace hs := hs.below b
  replace hJ := hJ.below b
  replace hw := hw.below b
  replace bs := bs.below b
  clear bs0 bs1
  have bs0 := bs.c0
  have bs1 := bs.c1
  replace hlI := Nat.le_trans hlI b.size
  replace B := B.trans (b.mono B.size)
  clear b
  have bw0 := bw.c0
  have bw1 := bw.c1
  go_wp2_with fail
  generalize u3.alloc (.cells #[.slice fw 4 c3, .slice dw 6 c4] 26) = v4 at *
  generalize u3.heap.size = bwb at *
  refine (lqEq _ hs hw).mono ?_
  rintro e u5 ⟨rfl, b⟩
  replace hE := hE.below b
  replace hs := hs.below b
  replace hJ := hJ.below b
  replace hw := hw.below b
  replace bs := bs.below b
  clear bs0 bs1
  have bs0 := bs.c0
  have bs1 := bs.c1
  replace bw := bw.below b
  clear bw0 bw1
  have bw0 := bw.c0
  have bw1 := bw.c1
  replace hlI := Nat.le_trans hlI b.size
  replace B := B.trans (b.mono B.size)
  clear b
  clear bw bw0 bw1
  clear hw
  clear HI HS
  clear hE
  clear hlI
  clear hJ
  clear HIN HEV HLC HAC HST
  go_wp2_with fail
  refine (iSame ⟨5, 1, 0, 9, false⟩ (by unfold EvOk; decide) (do_none (by decide) rfl) _ hs).mono ?_
  rintro e u6 ⟨f0, m0, d0, n0, rfl, o0, b⟩
  replace hs := hs.below b
  replace bs := bs.below b
  clear bs0 bs1
  have bs0 := bs.c0
  have bs1 := bs.c1
  replace B := B.trans (b.mono B.size)
  clear b
  have b : Below u6.heap.size u6 (u6.alloc (.cells #[.slice f0 4 m0, .slice d0 6 n0] 26)) := (Below.refl _ _).alloc (Nat.le_refl _) _
  have q0 := Bx.new u6 (.slice f0 4 m0) (.slice d0 6 n0) 26
  replace hs := hs.below b
  replace o0 := o0.below b
  replace bs := bs.below b
  clear bs0 bs1
  have bs0 := bs.c0
  have bs1 := bs.c1
  replace B := B.trans (b.mono B.size)
  clear b
  have q00 := q0.c0
  have q01 := q0.c1
  go_wp2_with fail
  generalize u6.alloc (.cells #[.slice f0 4 m0, .slice d0 6 n0] 26) = v7 at *
  generalize u6.heap.size = q0b at *
  refine (iSame ⟨1, 7, 0, 9, false⟩ (by unfold EvOk; decide) (do_none (by decide) (put_none (.inl rfl))) _ hs).mono ?_
  rintro e u8 ⟨f1, m1, d1, n1, rfl, o1, b⟩
  replace hs := hs.below b
  replace o0 := o0.below b
  replace bs := bs.below b
  clear bs0 bs1
  have bs0 := bs.c0
  have bs1 := bs.c1
  replace q0 := q0.below b
  clear q00 q01
  have q00 := q0.c0
  have q01 := q0.c1
  replace B := B.trans (b.mono B.size)
  clear b
  have b : Below u8.heap.size u8 (u8.alloc (.cells #[.slice f1 4 m1, .slice d1 6 n1] 26)) := (Below.refl _ _).alloc (Nat.le_refl _) _
  have q1 := Bx.new u8 (.slice f1 4 m1) (.slice d1 6 n1) 26
  replace hs := hs.below b
  replace o0 := o0.below b
  replace o1 := o1.below b
  replace bs := bs.below b
  clear bs0 bs1
  have bs0 := bs.c0
  have bs1 := bs.c1
  replace q0 := q0.below b
  clear q00 q01
  have q00 := q0.c0
  have q01 := q0.c1
  replace B := B.trans (b.mono B.size)
  clear b
  have q10 := q1.c0
  have q11 := q1.c1
  go_wp2_with fail
  generalize u8.alloc (.cells #[.slice f1 4 m1, .slice d1 6 n1] 26) = v9 at *
  generalize u8.heap.size = q1b at *
  refine (iSame ⟨1, 1, 10, 9, false⟩ (by unfold EvOk; decide) (do_none (by decide) (put_none (.inr rfl))) _ hs).mono ?_
  rintro e u10 ⟨f2, m2, d2, n2, rfl, o2, b⟩
  replace hs := hs.below b
  replace o0 := o0.below b
  replace o1 := o1.below b
  replace bs := bs.below b
  clear bs0 bs1
  have bs0 := bs.c0
  have bs1 := bs.c1
  replace q0 := q0.below b
  clear q00 q01
  have q00 := q0.c0
  have q01 := q0.c1
  replace q1 := q1.below b
  clear q10 q11
  have q10 := q1.c0
  have q11 := q1.c1
  replace B := B.trans (b.mono B.size)
  clear b
  have b : Below u10.heap.size u10 (u10.alloc (.cells #[.slice f2 4 m2, .slice d2 6 n2] 26)) := (Below.refl _ _).alloc (Nat.le_refl _) _
  have q2 := Bx.new u10 (.slice f2 4 m2) (.slice d2 6 n2) 26
  replace hs := hs.below b
  replace o0 := o0.below b
  replace o1 := o1.below b
  replace o2 := o2.below b
  replace bs := bs.below b
  clear bs0 bs1
  have bs0 := bs.c0
  have bs1 := bs.c1
  replace q0 := q0.below b
  clear q00 q01
  have q00 := q0.c0
  have q01 := q0.c1
  replace q1 := q1.below b
  clear q10 q11
  have q10 := q1.c0
  have q11 := q1.c1
  replace B := B.trans (b.mono B.size)
  clear b
  have q20 := q2.c0
  have q21 := q2.c1
  go_wp2_with fail
  generalize u10.alloc (.cells #[.slice f2 4 m2, .slice d2 6 n2] 26) = v11 at *
  generalize u10.heap.size = q2b at *
  refine (iSame ⟨1, 1, 1, 0, false⟩ (by unfold EvOk; decide) (do_zero (by decide) rfl rfl) _ hs).mono ?_
  rintro e u12 ⟨f3, m3, d3, n3, rfl, o3, b⟩
  replace hs := hs.below b
  replace o0 := o0.below b
  replace o1 := o1.below b
  replace o2 := o2.below b
  replace bs := bs.below b
  clear bs0 bs1
  have bs0 := bs.c0
  have bs1 := bs.c1
  replace q0 := q0.below b
  clear q00 q01
  have q00 := q0.c0
  have q01 := q0.c1
  replace q1 := q1.below b
  clear q10 q11
  have q10 := q1.c0
  have q11 := q1.c1
  replace q2 := q2.below b
  clear q20 q21
  have q20 := q2.c0
  have q21 := q2.c1
  replace B := B.trans (b.mono B.size)
  clear b
  have b : Below u12.heap.size u12 (u12.alloc (.cells #[.slice f3 4 m3, .slice d3 6 n3] 26)) := (Below.refl _ _).alloc (Nat.le_refl _) _
  have q3 := Bx.new u12 (.slice f3 4 m3) (.slice d3 6 n3) 26
  replace hs := hs.below b
  replace o0 := o0.below b
  replace o1 := o1.below b
  replace o2 := o2.below b
  replace o3 := o3.below b
  replace bs := bs.below b
  clear bs0 bs1
  have bs0 := bs.c0
  have bs1 := bs.c1
  replace q0 := q0.below b
  clear q00 q01
  have q00 := q0.c0
  have q01 := q0.c1
  replace q1 := q1.below b
  clear q10 q11
  have q10 := q1.c0
  have q11 := q1.c1
  replace q2 := q2.below b
  clear q20 q21
  have q20 := q2.c0
  have q21 := q2.c1
  replace B := B.trans (b.mono B.size)
  clear b
  have q30 := q3.c0
  have q31 := q3.c1
  go_wp2_with fail
  generalize u12.alloc (.cells #[.slice f3 4 m3, .slice d3 6 n3] 26) = v13 at *
  generalize u12.heap.size = q3b at *
  refine (iSame ⟨2, 0, 0, 9, false⟩ (by unfold EvOk; decide) (do_none (by decide) rfl) _ hs).mono ?_
  rintro e u14 ⟨f4, m4, d4, n4, rfl, o4, b⟩
  replace hs := hs.below b
  replace o0 := o0.below b
  replace o1 := o1.below b
  replace o2 := o2.below b
  replace o3 := o3.below b
  replace bs := bs.below b
  clear bs0 bs1
  have bs0 := bs.c0
  have bs1 := bs.c1
  replace q0 := q0.below b
  clear q00 q01
  have q00 := q0.c0
  have q01 := q0.c1
  replace q1 := q1.below b
  clear q10 q11
  have q10 := q1.c0
  have q11 := q1.c1
  replace q2 := q2.below b
  clear q20 q21
  have q20 := q2.c0
  have q21 := q2.c1
  replace q3 := q3.below b
  clear q30 q31
  have q30 := q3.c0
  have q31 := q3.c1
  replace B := B.trans (b.mono B.size)
  clear b
  have b : Below u14.heap.size u14 (u14.alloc (.cells #[.slice f4 4 m4, .slice d4 6 n4] 26)) := (Below.refl _ _).alloc (Nat.le_refl _) _
  have q4 := Bx.new u14 (.slice f4 4 m4) (.slice d4 6 n4) 26
  replace hs := hs.below b
  replace o0 := o0.below b
  replace o1 := o1.below b
  replace o2 := o2.below b
  replace o3 := o3.below b
  replace o4 := o4.below b
  replace bs := bs.below b
  clear bs0 bs1
  have bs0 := bs.c0
  have bs1 := bs.c1
  replace q0 := q0.below b
  clear q00 q01
  have q00 := q0.c0
  have q01 := q0.c1
  replace q1 := q1.below b
  clear q10 q11
  have q10 := q1.c0
  have q11 := q1.c1
  replace q2 := q2.below b
  clear q20 q21
  have q20 := q2.c0
  have q21 := q2.c1
  replace q3 := q3.below b
  clear q30 q31
  have q30 := q3.c0
  have q31 := q3.c1
  replace B := B.trans (b.mono B.size)
  clear b
  have q40 := q4.c0
  have q41 := q4.c1
  go_wp2_with fail
  generalize u14.alloc (.cells #[.slice f4 4 m4, .slice d4 6 n4] 26) = v15 at *
  generalize u14.heap.size = q4b at *
  refine (lqEq _ o0 hs).mono ?_
  rintro e u16 ⟨rfl, b⟩
  replace hs := hs.below b
  replace o0 := o0.below b
  replace o1 := o1.below b
  replace o2 := o2.below b
  replace o3 := o3.below b
  replace o4 := o4.below b
  replace bs := bs.below b
  clear bs0 bs1
  have bs0 := bs.c0
  have bs1 := bs.c1
  replace q0 := q0.below b
  clear q00 q01
  have q00 := q0.c0
  have q01 := q0.c1
  replace q1 := q1.below b
  clear q10 q11
  have q10 := q1.c0
  have q11 := q1.c1
  replace q2 := q2.below b
  clear q20 q21
  have q20 := q2.c0
  have q21 := q2.c1
  replace q3 := q3.below b
  clear q30 q31
  have q30 := q3.c0
  have q31 := q3.c1
  replace q4 := q4.below b
  clear q40 q41
  have q40 := q4.c0
  have q41 := q4.c1
  replace B := B.trans (b.mono B.size)
  clear b
  go_wp2_with fail
  refine (lqEq _ o1 hs).mono ?_
  rintro e u17 ⟨rfl, b⟩
  replace hs := hs.below b
  replace o0 := o0.below b
  replace o1 := o1.below b
  replace o2 := o2.below b
  replace o3 := o3.below b
  replace o4 := o4.below b
  replace bs := bs.below b
  clear bs0 bs1
  have bs0 := bs.c0
  have bs1 := bs.c1
  replace q0 := q0.below b
  clear q00 q01
  have q00 := q0.c0
  have q01 := q0.c1
  replace q1 := q1.below b
  clear q10 q11
  have q10 := q1.c0
  have q11 := q1.c1
  replace q2 := q2.below b
  clear q20 q21
  have q20 := q2.c0
  have q21 := q2.c1
  replace q3 := q3.below b
  clear q30 q31
  have q30 := q3.c0
  have q31 := q3.c1
  replace q4 := q4.below b
  clear q40 q41
  have q40 := q4.c0
  have q41 := q4.c1
  replace B := B.trans (b.mono B.size)
  clear b
  go_wp2_with fail
  refine (lqEq _ o2 hs).mono ?_
  rintro e u18 ⟨rfl, b⟩
  replace hs := hs.below b
  replace o0 := o0.below b
  replace o1 := o1.below b
  replace o2 := o2.below b
  replace o3 := o3.below b
  replace o4 := o4.below b
  replace bs := bs.below b
  clear bs0 bs1
  have bs0 := bs.c0
  have bs1 := bs.c1
  replace q0 := q0.below b
  clear q00 q01
  have q00 := q0.c0
  have q01 := q0.c1
  replace q1 := q1.below b
  clear q10 q11
  have q10 := q1.c0
  have q11 := q1.c1
  replace q2 := q2.below b
  clear q20 q21
  have q20 := q2.c0
  have q21 := q2.c1
  replace q3 := q3.below b
  clear q30 q31
  have q30 := q3.c0
  have q31 := q3.c1
  replace q4 := q4.below b
  clear q40 q41
  have q40 := q4.c0
  have q41 := q4.c1
  replace B := B.trans (b.mono B.size)
  clear b
  go_wp2_with fail
  refine (lqEq _ o3 hs).mono ?_
  rintro e u19 ⟨rfl, b⟩
  replace hs := hs.below b
  replace o0 := o0.below b
  replace o1 := o1.below b
  replace o2 := o2.below b
  replace o3 := o3.below b
  replace o4 := o4.below b
  replace bs := bs.below b
  clear bs0 bs1
  have bs0 := bs.c0
  have bs1 := bs.c1
  replace q0 := q0.below b
  clear q00 q01
  have q00 := q0.c0
  have q01 := q0.c1
  replace q1 := q1.below b
  clear q10 q11
  have q10 := q1.c0
  have q11 := q1.c1
  replace q2 := q2.below b
  clear q20 q21
  have q20 := q2.c0
  have q21 := q2.c1
  replace q3 := q3.below b
  clear q30 q31
  have q30 := q3.c0
  have q31 := q3.c1
  replace q4 := q4.below b
  clear q40 q41
  have q40 := q4.c0
  have q41 := q4.c1
  replace B := B.trans (b.mono B.size)
  clear b
  go_wp2_with fail
  refine (lqEq _ o4 hs).mono ?_
  rintro e u20 ⟨rfl, b⟩
  replace hs := hs.below b
  replace o0 := o0.below b
  replace o1 := o1.below b
  replace o2 := o2.below b
  replace o3 := o3.below b
  replace o4 := o4.below b
  replace bs := bs.below b
  clear bs0 bs1
  have bs0 := bs.c0
  have bs1 := bs.c1
  replace q0 := q0.below b
  clear q00 q01
  have q00 := q0.c0
  have q01 := q0.c1
  replace q1 := q1.below b
  clear q10 q11
  have q10 := q1.c0
  have q11 := q1.c1
  replace q2 := q2.below b
  clear q20 q21
  have q20 := q2.c0
  have q21 := q2.c1
  replace q3 := q3.below b
  clear q30 q31
  have q30 := q3.c0
  have q31 := q3.c1
  replace q4 := q4.below b
  clear q40 q41
  have q40 := q4.c0
  have q41 := q4.c1
  replace B := B.trans (b.mono B.size)
  clear b
  go_wp2
  go_ret
  exact ⟨rfl, B⟩


set_option maxRecDepth 100000 in
theorem lifted (os : Os) (started : os.Started) (H : Type) (enc : TypeId × Value → H) :
    ReturnsInHanded {} Tryz.checked os 13 .any (Rows.fnRunIdleSpec.pre6 enc Tryz.prog Tryz.f13 Rows.fnRunIdleRow.domain false) (Rows.fnRunIdleSpec.post enc Tryz.prog Tryz.f13 false true false false) := by
  refine returnsInHanded_of_change (C := Tryz.checked) own started (by kernel_rfl) Tryz.func13
    (ChangeSpec.witness6 (enc := enc) (C := Tryz.checked) false ⟨#[], #[.slice none 0 0], []⟩ 8 (by kernel_rfl) (by kernel_rfl) (by kernel_rfl) (by kernel_rfl)) ?_
  intro W base args ds gs before hval0 hW hcnd _
  have hval : ∀ (j : Nat) t v, Tryz.f13.params[j]? = some t → args[j]? = some v → Value.okWide Tryz.prog W .any base t v := hval0
  have hW' := hW
  obtain ⟨p, q, hA0, hV, rfl, hfz, hnd⟩ := hW
  have hA : DataW.TrodAll enc Tryz.prog W 0 (fun _ => true) true Tryz.f13.params.toList args.toList ds p := hA0
  rw [Tryz.params13] at hA hval
  obtain ⟨v0, vs0, d0, ds0, p0, q0, hargs, rfl, rfl, h0, r0⟩ := trodAll_cons hA
  obtain ⟨rfl, rfl, rfl⟩ := trodAll_nil r0
  obtain rfl : args = #[v0] := by cases args; simp_all
  obtain ⟨rfl, rfl⟩ := trodVars_none hV
  have kk0 := h0
  have lt0 : ∀ x ∈ p0, x.block < W.heap.size := by obtain ⟨m, hm⟩ := kk0; exact DataW.trod_lt m _ _ _ hm
  obtain ⟨a0, len0, cap0, rfl⟩ := okWide_slice Tryz.underlying22 (hval 0 22 v0 rfl rfl)
  obtain ⟨z0, w0⟩ : ∃ zs, IsRow .u8 W a0 len0 cap0 zs := by
    obtain ⟨fuel, hf⟩ := h0
    rcases open_ints Tryz.underlying22 Tryz.underlying5 (by kernel_rfl) hf with ⟨hcs, _⟩ | ⟨x, l, c, zs, hcs, _, hl, hm, hz, _, hcell, hwz⟩
    · simp [Value.cells] at hcs
      obtain ⟨rfl, rfl, rfl⟩ := hcs
      exact ⟨[], .inl ⟨rfl, rfl, rfl, rfl⟩⟩
    · simp [Value.cells] at hcs
      obtain ⟨rfl, rfl, rfl⟩ := hcs
      exact ⟨zs, .inr ⟨_, rfl, hl, hm, by simpa using hz, hcell, hwz⟩⟩
  clear hA0
  refine (walk a0 len0 cap0 z0 W w0).mono fun e W' ⟨he, bel⟩ => ?_
  subst he
  exact ⟨_, rfl, _, _, _, [], _, [], hW', trodAll_mk1 (shut_bool Tryz.underlying4 _), (trodAll_cons_mk (Below.trod laidOut (by kernel_rfl) (of_decide_eq_true (by kernel_rfl)) kk0 bel lt0) trodAll_mk0), rfl, bel.frame _, fun h => by cases h⟩

set_option maxRecDepth 100000 in
theorem facts : joinedFacts Tryz.prog 13 Tryz.f13 Rows.fnRunIdleSpec Rows.fnRunIdleRow = true := by
  unfold joinedFacts
  refine Facts.and_t ?_ (by as_aux_lemma => kernel_rfl)
  refine Facts.and_t ?_ (by as_aux_lemma => kernel_rfl)
  refine Facts.and_t ?_ (by as_aux_lemma => kernel_rfl)
  refine Facts.and_t ?_ (by as_aux_lemma => kernel_rfl)
  refine Facts.and_t ?_ (by show (Tryz.prog.make == some Make.cut) = true; rw [Facts.made]; rfl)
  refine Facts.and_t ?_ (by show (false == Tryz.prog.liftsFinal) = true; rw [Facts.lifts]; rfl)
  refine Facts.and_t ?_ (Facts.enters)
  refine Facts.and_t ?_ (Facts.heard)
  refine Facts.and_t ?_ (rfl)
  refine Facts.and_t ?_ (by show (true == Tryz.prog.plainKeys) = true; rw [Facts.keys]; rfl)
  refine Facts.and_t ?_ (by as_aux_lemma => kernel_rfl)
  refine Facts.and_t ?_ (by as_aux_lemma => kernel_rfl)
  refine Facts.and_t ?_ (by as_aux_lemma => kernel_rfl)
  refine Facts.and_t ?_ (by as_aux_lemma => kernel_rfl)
  refine Facts.and_t ?_ (by as_aux_lemma => kernel_rfl)
  refine Facts.and_t ?_ (by as_aux_lemma => kernel_rfl)
  refine Facts.and_t ?_ (by as_aux_lemma => kernel_rfl)
  refine Facts.and_t ?_ (by as_aux_lemma => kernel_rfl)
  refine Facts.and_t ?_ (by as_aux_lemma => kernel_rfl)
  refine Facts.and_t ?_ (by as_aux_lemma => kernel_rfl)
  refine Facts.and_t ?_ (by as_aux_lemma => kernel_rfl)
  refine Facts.and_t ?_ (by as_aux_lemma => kernel_rfl)
  refine Facts.and_t ?_ (by as_aux_lemma => kernel_rfl)
  refine Facts.and_t ?_ (by as_aux_lemma => kernel_rfl)
  refine Facts.and_t ?_ (by as_aux_lemma => kernel_rfl)
  refine Facts.and_t ?_ (by as_aux_lemma => kernel_rfl)
  refine Facts.and_t ?_ (by as_aux_lemma => kernel_rfl)
  refine Facts.and_t ?_ (by as_aux_lemma => kernel_rfl)
  refine Facts.and_t ?_ (by as_aux_lemma => kernel_rfl)
  refine Facts.and_t ?_ (Facts.rowed)
  refine Facts.and_t ?_ (Facts.laidOut)
  kernel_rfl

theorem over : Rows.fnRunIdleRow.holds Tryz.pinned (OpenSpec.ofChange Rows.fnRunIdleSpec) :=
  OpenClaim.holds_of_wide 13 Tryz.f13 rfl rfl rfl rfl rfl rfl rfl ⟨rfl, rfl, rfl, rfl, rfl⟩ rfl rfl rfl rfl rfl (by kernel_rfl) Tryz.func13 facts
    (of_decide_eq_true (by kernel_rfl)) (by unfold Func.isWrapper; first | (rw [if_pos (by decide +kernel)]; kernel_rfl) | (rw [if_neg (by decide +kernel)]; exact ⟨rfl, rfl⟩))
    (fun os started H enc _ => (lifted os started H enc))

end Go.Proofs.YtbiokmojjneleaaGreat.RunIdle
namespace Go.Proofs.YtbiokmojjneleaaGreat
theorem fnRunIdle_holds : Rows.FnRunIdleSaid := RunIdle.over
end Go.Proofs.YtbiokmojjneleaaGreat
