/-
  One can put again and again: so one can behind a drawn play. The given statement, with no condition.
-/
import Derived.Test.YtbiokmojjneleaaGreatRcQ
import Derived.Test.YtbiokmojjneleaaGreatRbS
import Derived.Test.YtbiokmojjneleaaGreatHaT
import Derived.Test.YtbiokmojjneleaaGreatFacts
import Derived.Lib.SmallJoins
namespace Go.Proofs.YtbiokmojjneleaaGreat.RunPut
open Go.ChangeShapes Go.WideShapes Go.ChangeAt Go.RowKit Go.Shelf Go.Joins OkA Big Fl ImplB ImplF ImplS ImplT ImplU SpecA SpecB SpecC SpecD SpecW SpecX SpecF SpecG SpecH FindP FindN FindO FindD ImplW ImplX Pick Draw ClA DrB PlB AlX DpX Pl FindL StA StB StC StD StE StF StG SpS SpT Sv LqI LqF Px NwA Sn9 ImplL Kp DoA RmA WrA FlA PlA SpU ToA QuE LawT MkN Ct Cu Ps Py Pz PaA EvL EvS PrA Nf Nr Rw PyE MkN TwB SpV LawU
open FlB (FsN)
open StN (SN)
open Facts (own laidOut)
set_option linter.unusedVariables false
set_option linter.unusedSimpArgs false
attribute [local go_sem ↓] Go.wp_at_zero Go.wp_at_succ

set_option maxRecDepth 100000 in
set_option maxHeartbeats 8000000 in
theorem walk (a0 : Option Addr) (len0 cap0 : Nat) (z0 : List Int) (a1 : Option Addr) (len1 cap1 : Nat) (z1 : List Int) (w : World) (h0 : IsRow .u8 w a0 len0 cap0 z0) (h1 : IsRow .u8 w a1 len1 cap1 z1) :
    Calls Tryz.prog 11 #[.slice a0 len0 cap0, .slice a1 len1 cap1] w fun e w' => e = .returned (.bool true) ∧ Below w.heap.size w w' := by
  have HD := hide (drawRun_any w a0 len0 cap0 z0 h0)
  clear h0
  clear h1
  go_enter Tryz.func11, Tryz.ntmps11
  by_cases hbig0 : 1048576 < (len0 : Int)
  · go_wp2
    go_ret
    exact ⟨rfl, Below.refl _ _⟩
  by_cases hbig1 : 1048576 < (len1 : Int)
  · go_wp2
    go_ret
    exact ⟨rfl, Below.refl _ _⟩
  go_wp2_with fail
  refine (unhide HD).mono ?_
  rintro e w1 ⟨ea, ec, L, rfl, hE, hl, hin, hac, B⟩
  clear HD
  have HIN := hide hin
  have HEV := hide (fun x hx => (hin x hx).ok)
  have HLC := hide hl
  have HAC := hide hac
  clear hin hl hac
  by_cases h60 : 60 < L.length
  · have hl61 : L.length ≤ 61 := by have := unhide HLC; omega
    have HI := hide (fun (w' : World) (h : EsAt w' ea L) => iRunN (cap := ec) L w' h (unhide HEV) (by omega) h60)
    have HS := hide (fun (w' : World) (h : EsAt w' ea L) => sRunN (cap := ec) L w' h (by omega) h60)
    clear HIN HEV HLC HAC h60 hl61
    go_wp2_with fail
    refine (unhide HI _ hE).mono ?_
    rintro e u1 ⟨rfl, b⟩
    replace hE := hE.below b
    replace B := B.trans (b.mono B.size)
    clear b
    have b : Below u1.heap.size u1 (u1.alloc (.cells #[.slice none 0 0, .slice none 0 0] 26)) := (Below.refl _ _).alloc (Nat.le_refl _) _
    have bs := Bx.new u1 (.slice none 0 0) (.slice none 0 0) 26
    replace hE := hE.below b
    replace B := B.trans (b.mono B.size)
    clear b
    have bs0 := bs.c0
    have bs1 := bs.c1
    go_wp2_with fail
    generalize u1.alloc (.cells #[.slice none 0 0, .slice none 0 0] 26) = v2 at *
    generalize u1.heap.size = bsb at *
    refine (unhide HS _ hE).mono ?_
    rintro e u3 ⟨rfl, b⟩
    replace hE := hE.below b
    replace bs := bs.below b
    clear bs0 bs1
    have bs0 := bs.c0
    have bs1 := bs.c1
    replace B := B.trans (b.mono B.size)
    clear b
    have b : Below u3.heap.size u3 (u3.alloc (.cells #[.slice none 0 0, .slice none 0 0] 26)) := (Below.refl _ _).alloc (Nat.le_refl _) _
    have bw := Bx.new u3 (.slice none 0 0) (.slice none 0 0) 26
    replace hE := hE.below b
    replace bs := bs.below b
    clear bs0 bs1
    have bs0 := bs.c0
    have bs1 := bs.c1
    replace B := B.trans (b.mono B.size)
    clear b
    have bw0 := bw.c0
    have bw1 := bw.c1
    go_wp2_with fail
    generalize u3.alloc (.cells #[.slice none 0 0, .slice none 0 0] 26) = v4 at *
    generalize u3.heap.size = bwb at *
    refine (lqNil _).mono ?_
    rintro e u5 ⟨rfl, b⟩
    replace hE := hE.below b
    replace bs := bs.below b
    clear bs0 bs1
    have bs0 := bs.c0
    have bs1 := bs.c1
    replace bw := bw.below b
    clear bw0 bw1
    have bw0 := bw.c0
    have bw1 := bw.c1
    replace B := B.trans (b.mono B.size)
    clear b
    go_wp2_with fail
    refine (lqNil _).mono ?_
    rintro e u6 ⟨rfl, b⟩
    replace hE := hE.below b
    replace bs := bs.below b
    clear bs0 bs1
    have bs0 := bs.c0
    have bs1 := bs.c1
    replace bw := bw.below b
    clear bw0 bw1
    have bw0 := bw.c0
    have bw1 := bw.c1
    replace B := B.trans (b.mono B.size)
    clear b
    go_wp2
    go_ret
    exact ⟨rfl, B⟩
  have hl60 : L.length ≤ 60 := by omega
  clear h60
  have HI := hide (fun (w' : World) (h : EsAt w' ea L) => iRunI (cap := ec) L w' h (unhide HEV) hl60)
  have HS := hide (fun (w' : World) (h : EsAt w' ea L) => sRun (cap := ec) L w' h hl60)
  have HST := hide (runP_st L)
  have HG : Hid (ph (runP L).1 ≤ 360 ∧ mostB (runP L).1 ≤ 360) := by have := run_gr L; exact ⟨by omega, by omega⟩
  generalize runP L = P at *
  obtain ⟨BB, KK⟩ := P
  go_wp2_with fail
  refine (unhide HI _ hE).mono ?_
  rintro e u1 ⟨fa, c1, da, c2, rfl, hI, b⟩
  replace hE := hE.below b
  replace B := B.trans (b.mono B.size)
  clear b
  have hs : SO _ fa da BB KK := so_of hI (unhide HST)
  obtain ⟨loI, hiI, hJ, hlI⟩ : ∃ lo hi, InT u1 lo hi (.slice fa 4 c1) (.slice da 6 c2) true BB KK ∧ hi ≤ u1.heap.size := ⟨_, _, hI, Nat.le_refl _⟩
  clear hI
  have b : Below u1.heap.size u1 (u1.alloc (.cells #[.slice fa 4 c1, .slice da 6 c2] 26)) := (Below.refl _ _).alloc (Nat.le_refl _) _
  have bs := Bx.new u1 (.slice fa 4 c1) (.slice da 6 c2) 26
  replace hE := hE.below b
  replace hs := hs.below b
  replace hJ := hJ.below b
  replace hlI := Nat.le_trans hlI b.size
  replace B := B.trans (b.mono B.size)
  clear b
  have bs0 := bs.c0
  have bs1 := bs.c1
  go_wp2_with fail
  generalize u1.alloc (.cells #[.slice fa 4 c1, .slice da 6 c2] 26) = v2 at *
  generalize u1.heap.size = bsb at *
  refine (unhide HS _ hE).mono ?_
  rintro e u3 ⟨fw, c3, dw, c4, rfl, hw, b⟩
  replace hE := hE.below b
  replace hs := hs.below b
  replace hJ := hJ.below b
  replace bs := bs.below b
  clear bs0 bs1
  have bs0 := bs.c0
  have bs1 := bs.c1
  replace hlI := Nat.le_trans hlI b.size
  replace B := B.trans (b.mono B.size)
  clear b
  have b : Below u3.heap.size u3 (u3.alloc (.cells #[.slice fw 4 c3, .slice dw 6 c4] 26)) := (Below.refl _ _).alloc (Nat.le_refl _) _
  have bw := Bx.new u3 (.slice fw 4 c3) (.slice dw 6 c4) 26
  replace hE := hE.below b
  replace hs := hs.below b
  replace hJ := hJ.below b
  replace hw := hw.below b
  replace bs := bs.below b
  clear bs0 bs1
  have bs0 := bs.c0
  have bs1 := bs.c1
  replace hlI := Nat.le_trans hlI b.size
  replace B := B.trans (b.mono B.size)
  clear b
  have bw0 := bw.c0
  have bw1 := bw.c1
  go_wp2_with fail
  generalize u3.alloc (.cells #[.slice fw 4 c3, .slice dw 6 c4] 26) = v4 at *
  generalize u3.heap.size = bwb at *
  refine (lqEq _ hs hw).mono ?_
  rintro e u5 ⟨rfl, b⟩
  replace hE := hE.below b
  replace hs := hs.below b
  replace hJ := hJ.below b
  replace hw := hw.below b
  replace bs := bs.below b
  clear bs0 bs1
  have bs0 := bs.c0
  have bs1 := bs.c1
  replace bw := bw.below b
  clear bw0 bw1
  have bw0 := bw.c0
  have bw1 := bw.c1
  replace hlI := Nat.le_trans hlI b.size
  replace B := B.trans (b.mono B.size)
  clear b
  clear bw bw0 bw1
  clear hw
  clear HI HS
  clear HIN HLC HAC HEV
  have HSS := hide (show (Tryz.prog.info? 26).map (·.size) = some 2 by kernel_rfl)
  have HSE := hide (show (Tryz.prog.info? 42).map (·.size) = some 5 by kernel_rfl)
  clear hE
  have hlb : (len1 : Int) ≤ 1048576 := by omega
  have hJ0 := hJ
  have hl0 := hlI
  clear hJ
  clear hlI
  have hs9 := hide hs
  have bs9 := hide bs
  have B9 := hide B
  have b : Below u5.heap.size u5 (u5.alloc (.cells #[.slice fa 4 c1, .slice da 6 c2] 26)) := (Below.refl _ _).alloc (Nat.le_refl _) _
  have bsu0 := bs0
  have bsu1 := bs1
  have cX := CsAt.new u5 [.slice fa 4 c1, .slice da 6 c2] 26
  have I0 := InT.below hJ0 b
  have b0 := b
  have hxs : u5.heap.size < (u5.alloc (.cells #[.slice fa 4 c1, .slice da 6 c2] 26)).heap.size := by simp
  clear hJ0
  replace hs := hs.below b
  replace bs := bs.below b
  clear bs0 bs1
  have bs0 := bs.c0
  have bs1 := bs.c1
  replace B := B.trans (b.mono B.size)
  clear b
  go_wp2
  generalize u5.alloc (.cells #[.slice fa 4 c1, .slice da 6 c2] 26) = v6 at *
  go_loopw [11] (fun i w' => ∃ j : Nat, j ≤ 21 ∧ i = .int .i64 j ∧ ∃ ga m1 da m2 lo hi BX KX, CsAt w' u5.heap.size [.slice ga 4 m1, .slice da 6 m2] ∧ InT w' lo hi (.slice ga 4 m1) (.slice da 6 m2) true BX KX ∧ Hid (stB BX KX = true ∧ (ph BX ≤ 360 + 4 * (j : Int) ∧ mostB BX ≤ 360 + (j : Int))) ∧ ((u5.heap.size < lo ∨ hi ≤ u5.heap.size) ∧ u5.heap.size < w'.heap.size ∧ hi ≤ w'.heap.size) ∧ Below u5.heap.size u5 w') (fun i _ => 21 - (intOf i).toNat)
  case atStart => exact ⟨0, by omega, rfl, fa, c1, da, c2, _, _, _, _, cX, I0, hide ⟨unhide HST, by have := unhide HG; constructor <;> omega⟩, ⟨.inr hl0, hxs, Nat.le_trans hl0 (Nat.le_of_lt hxs)⟩, b0⟩
  case round =>
    clear cX I0 b0
    obtain ⟨j, hj, rfl, gx, m1, dx, m2, lo, hi, BX, KX, cX, I0, HX, hsep, bw⟩ := hrel
    clear hs
    have hs := (unhide hs9).below bw
    clear bs0 bs1 bs bsu0 bsu1
    have bs := (unhide bs9).below bw
    have bs0 := bs.c0
    have bs1 := bs.c1
    clear B
    have B := (unhide B9).trans (bw.mono (unhide B9).size)
    have hso : SO _ gx dx BX KX := so_of I0 (unhide HX).1
    by_cases h0 : j = 21
    · subst h0
      have x0 := cX.cell 0 _ rfl
      have x1 := cX.cell 1 _ rfl
      go_wp2_with fail
      refine (iOkO _ hso).mono ?_
      rintro e u7 ⟨rfl, b⟩
      replace hs := hs.below b
      replace bs := bs.below b
      clear bs0 bs1
      have bs0 := bs.c0
      have bs1 := bs.c1
      replace B := B.trans (b.mono B.size)
      clear b
      go_wp2
      go_ret
      exact ⟨rfl, B⟩
    · have hji : (j : Int) < 21 := by omega
      have hj0 : (0 : Int) ≤ (j : Int) := by omega
      have hwj : IntKind.i64.wrap ((j : Int) + 1) = (j : Int) + 1 := by rw [IntKind.wrap_i64] <;> omega
      obtain ⟨A, hA, hA1, hA6⟩ : ∃ A : Int, 1 + ((j : Int) + (len1 : Int)) % 6 = A ∧ 1 ≤ A ∧ A ≤ 6 := ⟨_, rfl, by omega, by omega⟩
      have hwA : IntKind.i64.wrap A = A := by rw [IntKind.wrap_i64] <;> omega
      obtain ⟨V, hV, hV0, hV9⟩ : ∃ V : Int, ((j : Int) * 3 + (len1 : Int)) % 10 = V ∧ 0 ≤ V ∧ V ≤ 9 := ⟨_, rfl, by omega, by omega⟩
      have hwV : IntKind.i64.wrap V = V := by rw [IntKind.wrap_i64] <;> omega
      have hwa : IntKind.i64.wrap ((j : Int) + (len1 : Int)) = (j : Int) + (len1 : Int) := by rw [IntKind.wrap_i64] <;> omega
      have hwb : IntKind.i64.wrap ((j : Int) * 3) = (j : Int) * 3 := by rw [IntKind.wrap_i64] <;> omega
      have hwc : IntKind.i64.wrap ((j : Int) * 3 + (len1 : Int)) = (j : Int) * 3 + (len1 : Int) := by rw [IntKind.wrap_i64] <;> omega
      have hXf := (unhide HX)
      have HRD := hide (put_rd hXf.1 (by omega) (by omega) ⟨1, A, V, 60, false⟩ rfl hA1 hA6 hV0 hV9 (by show (6 : Int) ≤ 60; omega) A hA1 hA6)
      have HGR := hide (doP_gr1 hXf.1 ⟨1, A, V, 60, false⟩ (by show (1 : Int) ≠ 4; omega))
      have HX2 : Hid (stB (doP BX KX ⟨1, A, V, 60, false⟩).1 (doP BX KX ⟨1, A, V, 60, false⟩).2 = true ∧ (ph (doP BX KX ⟨1, A, V, 60, false⟩).1 ≤ 360 + 4 * ((j + 1 : Nat) : Int) ∧ mostB (doP BX KX ⟨1, A, V, 60, false⟩).1 ≤ 360 + ((j + 1 : Nat) : Int))) := ⟨doP_st hXf.1 _, by have h1 := (unhide HGR).1; have h2 := (unhide HGR).2; constructor <;> omega⟩
      have HDO := hide (iDoI (c1 := m1) (c2 := m2) ⟨1, A, V, 60, false⟩ (by unfold EvOk; exact ⟨⟨by show _ ≤ A; omega, by show A ≤ _; omega⟩, ⟨by show _ ≤ (60 : Int); omega, by show (60 : Int) ≤ _; omega⟩⟩) wr hso)
      clear HGR hXf hs bs bs0 bs1 hso
      have HR9 : Hid (readI (doP BX KX ⟨1, A, V, 60, false⟩).1 (doP BX KX ⟨1, A, V, 60, false⟩).2 A = V) := (unhide HRD).trans (if_pos rfl)
      clear HRD
      generalize doP BX KX ⟨1, A, V, 60, false⟩ = Q at *
      obtain ⟨BY, KY⟩ := Q
      have x0 := cX.cell 0 _ rfl
      have x1 := cX.cell 1 _ rfl
      go_wp2_with fail
      refine (unhide HDO).mono ?_
      rintro e y1 ⟨gy, n1, dy, n2, rfl, I5, b⟩
      replace cX := cX.below b (CsAt.lt cX (by simp))
      have bw1 := bw.trans (b.mono bw.size)
      have z1 := b.size
      clear b x0 x1 HDO I0 HX bw B hA hV
      have x0 := cX.cell 0 _ rfl
      have x1 := cX.cell 1 _ rfl
      have f0 := cX.frozen 0 (by simp)
      have f1 := cX.frozen 1 (by simp)
      have pX := cX.put [.slice gy 4 n1, .slice dy 6 n2] rfl
      have kz := OrdL.kcells y1 u5.heap.size 0 [.slice gy 4 n1, .slice dy 6 n2]
      have I6 := InT.only I5 (OnlyG.kept kz) (fun z hz => .inl (by simp at hz; omega))
      have bw2 := bw1.trans (Kept.below kz (B := u5.heap.size) (fun z hz => by simp at hz; subst hz; exact Nat.le_refl _) (by have := bw1.size; omega))
      have z2 := kz.size
      clear kz I5 bw1
      go_upto_region 15 with fail
      refine ImplX.wp_world (φ := fun w' => CsAt w' u5.heap.size [.slice gy 4 n1, .slice dy 6 n2] ∧ InT w' wr.heap.size y1.heap.size (.slice gy 4 n1) (.slice dy 6 n2) true BY KY ∧ Below u5.heap.size u5 w' ∧ y1.heap.size ≤ w'.heap.size) ⟨pX, I6, bw2, z2⟩ ?_
      clear pX I6 bw2 x0 x1 f0 f1 cX z2
      rintro y2 ⟨cX, I6, bw2, z2⟩
      have x0 := cX.cell 0 _ rfl
      have x1 := cX.cell 1 _ rfl
      have HRX := iRdO (c1 := n1) (c2 := n2) A hA1 hA6 y2 (so_of I6 (unhide HX2).1)
      rw [unhide HR9] at HRX
      have HRY := hide HRX
      clear HRX
      go_wp2_with fail
      refine (unhide HRY).mono ?_
      rintro e y3 ⟨rfl, b⟩
      have z3 := b.size
      have cX3 := cX.below b (CsAt.lt cX (by simp))
      have I7 := InT.below I6 b
      have bw3 := bw2.trans (b.mono bw2.size)
      have hvv : (V != V) = false := by simp
      clear b cX I6 bw2 x0 x1 HRY HR9
      go_wp2
      go_roundw
      case rel => exact ⟨j + 1, by omega, by first | rfl | go_num, gy, n1, dy, n2, _, _, _, _, cX3, I7, HX2, ⟨by left; omega, by omega, by omega⟩, bw3⟩
      case measure => simp [intOf]; omega


set_option maxRecDepth 100000 in
theorem lifted (os : Os) (started : os.Started) (H : Type) (enc : TypeId × Value → H) :
    ReturnsInHanded {} Tryz.checked os 11 .any (Rows.fnRunPutSpec.pre6 enc Tryz.prog Tryz.f11 Rows.fnRunPutRow.domain false) (Rows.fnRunPutSpec.post enc Tryz.prog Tryz.f11 false true false false) := by
  refine returnsInHanded_of_change (C := Tryz.checked) own started (by kernel_rfl) Tryz.func11
    (ChangeSpec.witness6 (enc := enc) (C := Tryz.checked) false ⟨#[], #[.slice none 0 0, .slice none 0 0], []⟩ 8 (by kernel_rfl) (by kernel_rfl) (by kernel_rfl) (by kernel_rfl)) ?_
  intro W base args ds gs before hval0 hW hcnd _
  have hval : ∀ (j : Nat) t v, Tryz.f11.params[j]? = some t → args[j]? = some v → Value.okWide Tryz.prog W .any base t v := hval0
  have hW' := hW
  obtain ⟨p, q, hA0, hV, rfl, hfz, hnd⟩ := hW
  have hA : DataW.TrodAll enc Tryz.prog W 0 (fun _ => true) true Tryz.f11.params.toList args.toList ds p := hA0
  rw [Tryz.params11] at hA hval
  obtain ⟨v0, vs0, d0, ds0, p0, q0, hargs, rfl, rfl, h0, r0⟩ := trodAll_cons hA
  obtain ⟨v1, vs1, d1, ds1, p1, q1, rfl, rfl, rfl, h1, r1⟩ := trodAll_cons r0
  obtain ⟨rfl, rfl, rfl⟩ := trodAll_nil r1
  obtain rfl : args = #[v0, v1] := by cases args; simp_all
  obtain ⟨rfl, rfl⟩ := trodVars_none hV
  have kk0 := h0
  have lt0 : ∀ x ∈ p0, x.block < W.heap.size := by obtain ⟨m, hm⟩ := kk0; exact DataW.trod_lt m _ _ _ hm
  obtain ⟨a0, len0, cap0, rfl⟩ := okWide_slice Tryz.underlying22 (hval 0 22 v0 rfl rfl)
  obtain ⟨z0, w0⟩ : ∃ zs, IsRow .u8 W a0 len0 cap0 zs := by
    obtain ⟨fuel, hf⟩ := h0
    rcases open_ints Tryz.underlying22 Tryz.underlying5 (by kernel_rfl) hf with ⟨hcs, _⟩ | ⟨x, l, c, zs, hcs, _, hl, hm, hz, _, hcell, hwz⟩
    · simp [Value.cells] at hcs
      obtain ⟨rfl, rfl, rfl⟩ := hcs
      exact ⟨[], .inl ⟨rfl, rfl, rfl, rfl⟩⟩
    · simp [Value.cells] at hcs
      obtain ⟨rfl, rfl, rfl⟩ := hcs
      exact ⟨zs, .inr ⟨_, rfl, hl, hm, by simpa using hz, hcell, hwz⟩⟩
  have kk1 := h1
  have lt1 : ∀ x ∈ p1, x.block < W.heap.size := by obtain ⟨m, hm⟩ := kk1; exact DataW.trod_lt m _ _ _ hm
  obtain ⟨a1, len1, cap1, rfl⟩ := okWide_slice Tryz.underlying22 (hval 1 22 v1 rfl rfl)
  obtain ⟨z1, w1⟩ : ∃ zs, IsRow .u8 W a1 len1 cap1 zs := by
    obtain ⟨fuel, hf⟩ := h1
    rcases open_ints Tryz.underlying22 Tryz.underlying5 (by kernel_rfl) hf with ⟨hcs, _⟩ | ⟨x, l, c, zs, hcs, _, hl, hm, hz, _, hcell, hwz⟩
    · simp [Value.cells] at hcs
      obtain ⟨rfl, rfl, rfl⟩ := hcs
      exact ⟨[], .inl ⟨rfl, rfl, rfl, rfl⟩⟩
    · simp [Value.cells] at hcs
      obtain ⟨rfl, rfl, rfl⟩ := hcs
      exact ⟨zs, .inr ⟨_, rfl, hl, hm, by simpa using hz, hcell, hwz⟩⟩
  clear hA0
  refine (walk a0 len0 cap0 z0 a1 len1 cap1 z1 W w0 w1).mono fun e W' ⟨he, bel⟩ => ?_
  subst he
  exact ⟨_, rfl, _, _, _, [], _, [], hW', trodAll_mk1 (shut_bool Tryz.underlying4 _), (trodAll_cons_mk (Below.trod laidOut (by kernel_rfl) (of_decide_eq_true (by kernel_rfl)) kk0 bel lt0) (trodAll_cons_mk (Below.trod laidOut (by kernel_rfl) (of_decide_eq_true (by kernel_rfl)) kk1 bel lt1) trodAll_mk0)), rfl, bel.frame _, fun h => by cases h⟩

set_option maxRecDepth 100000 in
theorem facts : joinedFacts Tryz.prog 11 Tryz.f11 Rows.fnRunPutSpec Rows.fnRunPutRow = true := by
  unfold joinedFacts
  refine Facts.and_t ?_ (by as_aux_lemma => kernel_rfl)
  refine Facts.and_t ?_ (by as_aux_lemma => kernel_rfl)
  refine Facts.and_t ?_ (by as_aux_lemma => kernel_rfl)
  refine Facts.and_t ?_ (by as_aux_lemma => kernel_rfl)
  refine Facts.and_t ?_ (by show (Tryz.prog.make == some Make.cut) = true; rw [Facts.made]; rfl)
  refine Facts.and_t ?_ (by show (false == Tryz.prog.liftsFinal) = true; rw [Facts.lifts]; rfl)
  refine Facts.and_t ?_ (Facts.enters)
  refine Facts.and_t ?_ (Facts.heard)
  refine Facts.and_t ?_ (rfl)
  refine Facts.and_t ?_ (by show (true == Tryz.prog.plainKeys) = true; rw [Facts.keys]; rfl)
  refine Facts.and_t ?_ (by as_aux_lemma => kernel_rfl)
  refine Facts.and_t ?_ (by as_aux_lemma => kernel_rfl)
  refine Facts.and_t ?_ (by as_aux_lemma => kernel_rfl)
  refine Facts.and_t ?_ (by as_aux_lemma => kernel_rfl)
  refine Facts.and_t ?_ (by as_aux_lemma => kernel_rfl)
  refine Facts.and_t ?_ (by as_aux_lemma => kernel_rfl)
  refine Facts.and_t ?_ (by as_aux_lemma => kernel_rfl)
  refine Facts.and_t ?_ (by as_aux_lemma => kernel_rfl)
  refine Facts.and_t ?_ (by as_aux_lemma => kernel_rfl)
  refine Facts.and_t ?_ (by as_aux_lemma => kernel_rfl)
  refine Facts.and_t ?_ (by as_aux_lemma => kernel_rfl)
  refine Facts.and_t ?_ (by as_aux_lemma => kernel_rfl)
  refine Facts.and_t ?_ (by as_aux_lemma => kernel_rfl)
  refine Facts.and_t ?_ (by as_aux_lemma => kernel_rfl)
  refine Facts.and_t ?_ (by as_aux_lemma => kernel_rfl)
  refine Facts.and_t ?_ (by as_aux_lemma => kernel_rfl)
  refine Facts.and_t ?_ (by as_aux_lemma => kernel_rfl)
  refine Facts.and_t ?_ (by as_aux_lemma => kernel_rfl)
  refine Facts.and_t ?_ (by as_aux_lemma => kernel_rfl)
  refine Facts.and_t ?_ (Facts.rowed)
  refine Facts.and_t ?_ (Facts.laidOut)
  kernel_rfl

theorem over : Rows.fnRunPutRow.holds Tryz.pinned (OpenSpec.ofChange Rows.fnRunPutSpec) :=
  OpenClaim.holds_of_wide 11 Tryz.f11 rfl rfl rfl rfl rfl rfl rfl ⟨rfl, rfl, rfl, rfl, rfl⟩ rfl rfl rfl rfl rfl (by kernel_rfl) Tryz.func11 facts
    (of_decide_eq_true (by kernel_rfl)) (by unfold Func.isWrapper; first | (rw [if_pos (by decide +kernel)]; kernel_rfl) | (rw [if_neg (by decide +kernel)]; exact ⟨rfl, rfl⟩))
    (fun os started H enc _ => (lifted os started H enc))

end Go.Proofs.YtbiokmojjneleaaGreat.RunPut
namespace Go.Proofs.YtbiokmojjneleaaGreat
theorem fnRunPut_holds : Rows.FnRunPutSaid := RunPut.over
end Go.Proofs.YtbiokmojjneleaaGreat
