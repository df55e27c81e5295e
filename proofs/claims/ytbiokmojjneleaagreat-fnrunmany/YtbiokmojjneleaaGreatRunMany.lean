/-
  No more may happen than may: so it may not in a drawn play. The given statement, with no condition.
-/
import Derived.Test.YtbiokmojjneleaaGreatRl
import Derived.Test.YtbiokmojjneleaaGreatRcQ
import Derived.Test.YtbiokmojjneleaaGreatRbS
import Derived.Test.YtbiokmojjneleaaGreatHaT
import Derived.Test.YtbiokmojjneleaaGreatFacts
import Derived.Lib.SmallJoins
namespace Go.Proofs.YtbiokmojjneleaaGreat.RunMany
open Go.ChangeShapes Go.WideShapes Go.ChangeAt Go.RowKit Go.Shelf Go.Joins OkA Big Fl ImplB ImplF ImplS ImplT ImplU SpecA SpecB SpecC SpecD SpecW SpecX SpecF SpecG SpecH FindP FindN FindO FindD ImplW ImplX Pick Draw ClA DrB PlB AlX DpX Pl FindL StA StB StC StD StE StF StG SpS SpT Sv LqI LqF Px NwA Sn9 ImplL Kp DoA RmA WrA FlA PlA SpU ToA QuE LawT MkN Ct Cu Ps Py Pz PaA EvL EvS PrA Nf Nr Rw PyE Rl PyA
open FlB (FsN)
open StN (SN)
open Facts (own laidOut)
set_option linter.unusedVariables false
set_option linter.unusedSimpArgs false
attribute [local go_sem ↓] Go.wp_at_zero Go.wp_at_succ

theorem es_take {w : World} {a : Option Addr} {l : List Ev} (h : EsAt w a l) (n : Nat) : EsAt w a (l.take n) := by
  rcases h with rfl | ⟨b, o, rfl, h⟩
  · exact .inl (by simp)
  · refine .inr ⟨b, o, rfl, fun j v hv => h j v ?_⟩
    have e : esC l = esC (l.take n) ++ esC (l.drop n) := by unfold esC; rw [← List.flatMap_append, List.take_append_drop]
    rw [e, List.getElem?_append_left (List.getElem?_eq_some_iff.1 hv).1]; exact hv

set_option maxRecDepth 100000 in
set_option maxHeartbeats 8000000 in
theorem walk (a0 : Option Addr) (len0 cap0 : Nat) (z0 : List Int) (w : World) (h0 : IsRow .u8 w a0 len0 cap0 z0) :
    Calls Tryz.prog 19 #[.slice a0 len0 cap0] w fun e w' => e = .returned (.bool true) ∧ Below w.heap.size w w' := by
  have HD := hide (drawRun_any w a0 len0 cap0 z0 h0)
  clear h0
  go_enter Tryz.func19, Tryz.ntmps19
  by_cases hbig0 : 1048576 < (len0 : Int)
  · go_wp2
    go_ret
    exact ⟨rfl, Below.refl _ _⟩
  go_wp2_with fail
  refine (unhide HD).mono ?_
  rintro e w1 ⟨ea, ec, L, rfl, hE, hl, hin, hac, B⟩
  clear HD
  have HEV := hide (fun x hx => (hin x hx).ok)
  have HLC := hide hl
  have HAC := hide hac
  have HUW := hide (Below.size B)
  clear hin hl hac
  have hUw := unhide HUW
  clear HUW
  by_cases h60 : 60 < L.length
  · have hl61 : L.length ≤ 61 := by have := unhide HLC; omega
    have HI := hide (fun (w' : World) (h : EsAt w' ea L) => iRunN (cap := ec) L w' h (unhide HEV) (by omega) h60)
    have HS := hide (fun (w' : World) (h : EsAt w' ea L) => sRunN (cap := ec) L w' h (by omega) h60)
    clear h60 hl61
    go_wp2_with fail
    refine (unhide HI _ hE).mono ?_
    rintro e u1 ⟨rfl, b⟩
    replace hE := hE.below b
    replace hUw := Nat.le_trans hUw b.size
    replace B := B.trans (b.mono B.size)
    clear b
    have b : Below u1.heap.size u1 (u1.alloc (.cells #[.slice none 0 0, .slice none 0 0] 26)) := (Below.refl _ _).alloc (Nat.le_refl _) _
    have bs := Bx.new u1 (.slice none 0 0) (.slice none 0 0) 26
    replace hE := hE.below b
    replace hUw := Nat.le_trans hUw b.size
    replace B := B.trans (b.mono B.size)
    clear b
    have bs0 := bs.c0
    have bs1 := bs.c1
    go_wp2_with fail
    generalize u1.alloc (.cells #[.slice none 0 0, .slice none 0 0] 26) = v2 at *
    generalize u1.heap.size = bsb at *
    refine (unhide HS _ hE).mono ?_
    rintro e u3 ⟨rfl, b⟩
    replace hE := hE.below b
    replace bs := bs.below b
    clear bs0 bs1
    have bs0 := bs.c0
    have bs1 := bs.c1
    replace hUw := Nat.le_trans hUw b.size
    replace B := B.trans (b.mono B.size)
    clear b
    have b : Below u3.heap.size u3 (u3.alloc (.cells #[.slice none 0 0, .slice none 0 0] 26)) := (Below.refl _ _).alloc (Nat.le_refl _) _
    have bw := Bx.new u3 (.slice none 0 0) (.slice none 0 0) 26
    replace hE := hE.below b
    replace bs := bs.below b
    clear bs0 bs1
    have bs0 := bs.c0
    have bs1 := bs.c1
    replace hUw := Nat.le_trans hUw b.size
    replace B := B.trans (b.mono B.size)
    clear b
    have bw0 := bw.c0
    have bw1 := bw.c1
    go_wp2_with fail
    generalize u3.alloc (.cells #[.slice none 0 0, .slice none 0 0] 26) = v4 at *
    generalize u3.heap.size = bwb at *
    refine (lqNil _).mono ?_
    rintro e u5 ⟨rfl, b⟩
    replace hE := hE.below b
    replace bs := bs.below b
    clear bs0 bs1
    have bs0 := bs.c0
    have bs1 := bs.c1
    replace bw := bw.below b
    clear bw0 bw1
    have bw0 := bw.c0
    have bw1 := bw.c1
    replace hUw := Nat.le_trans hUw b.size
    replace B := B.trans (b.mono B.size)
    clear b
    clear bs bs0 bs1
    clear bw bw0 bw1
    have HUW := hide hUw
    clear HI HS hUw
    have hl61 : L.length ≤ 61 := by have := unhide HLC; omega
    have HSS := hide (show (Tryz.prog.info? 26).map (·.size) = some 2 by kernel_rfl)
    have HSE := hide (show (Tryz.prog.info? 42).map (·.size) = some 5 by kernel_rfl)
    obtain ⟨iE, hiE, hzE, hsE, hbE⟩ := infoE
    have hE0 := hide hE
    have b9 : Below u5.heap.size u5 (u5.alloc (.cells #[] 42)) := (Below.refl _ _).alloc (Nat.le_refl _) _
    have hEa := hE.below b9
    have V0 := Evs.nil u5
    have hR0 := V0.row
    have hsz0 := b9.size
    have hacE : (ea = none ∧ ec = 0 ∧ L.length = 0) ∨ ∃ g, ea = some ⟨g, 0, none⟩ := by rcases unhide HAC with h | ⟨g, h, _⟩; exact .inl h; exact .inr ⟨g, h⟩
    clear hE
    go_wp2_with (refine wpList_append_es rfl _ _ 49 rfl u5.heap.size 42 iE (.agg #[.int .i64 0, .int .i64 0, .int .i64 0, .int .i64 0, .bool false]) 5 40 Tryz.underlying49 hiE hzE hsE hbE rfl (by omega) rfl _ 0 [] rfl hR0 ea ec L hEa hacE rfl (by simp [maxLen]; omega) (by omega) (by omega) ?_; intro v1 w9 ho9 hg9)
    obtain ⟨V1, b1⟩ := V0.pushN (by omega) ho9 hg9
    replace b9 := b9.trans (b1.mono (Nat.le_refl _))
    have hq9 := b9.size
    rw [Nat.zero_add, List.nil_append] at V1
    clear V0 hR0 ho9 hg9 b1 hEa hsz0 hacE
    obtain ⟨wa, wc, rfl, hwa⟩ := Evs.sl V1
    clear hwa
    go_wp2
    go_loopw [8] (fun v w' => ∃ (m : Nat) (M : List Ev) (va : Option Addr) (vc : Nat), v = .slice va m vc ∧ m ≤ 61 ∧ Evs w' u5.heap.size (.slice va m vc) m (esC M) ∧ Hid (M.length = m ∧ ∀ x ∈ M, EvOk x) ∧ u5.heap.size ≤ w'.heap.size ∧ Below u5.heap.size u5 w') (fun v _ => 61 - lenOf v)
    case atStart => exact ⟨L.length, L, wa, wc, rfl, hl61, V1, hide ⟨rfl, unhide HEV⟩, hq9, b9⟩
    case round =>
      clear V1 hq9 b9
      obtain ⟨m, M, va, vc, rfl, hm, V, HM, hX, bw⟩ := hrel
      by_cases h60m : m < 60
      · have hmi : (m : Int) < 60 := by omega
        have bB : Below wr.heap.size wr (wr.alloc (.cells #[.int .i64 3, .int .i64 1, .int .i64 0, .int .i64 1, .bool false] 42)) := (Below.refl _ _).alloc (Nat.le_refl _) _
        have Va := Evs.below V bB
        have nw := CsAt.new wr [.int .i64 3, .int .i64 1, .int .i64 0, .int .i64 1, .bool false] 42
        have hnw := src_mid nw.cells
        have hR := Va.row
        have hone := EvS.one_evC ⟨3, 1, 0, 1, false⟩
        have ba := bw.trans (bB.mono (by have := bw.size; omega))
        have hXa := Nat.le_trans hX bB.size
        have HM2 : Hid ((M ++ [(⟨3, 1, 0, 1, false⟩ : Ev)]).length = m + 1 ∧ ∀ x ∈ M ++ [(⟨3, 1, 0, 1, false⟩ : Ev)], EvOk x) := hide ⟨by rw [List.length_append, (unhide HM).1]; rfl, fun x hx => by rcases List.mem_append.1 hx with hx | hx; exact (unhide HM).2 x hx; simp at hx; subst hx; unfold EvOk; decide⟩
        have HBE := (show Tryz.prog.built 42 [(0, .int .i64 3), (1, .int .i64 1), (3, .int .i64 1)] = some #[.int .i64 3, .int .i64 1, .int .i64 0, .int .i64 1, .bool false] by kernel_rfl)
        clear V bB nw hX bw HM
        go_wp2_with (refine wpList_append_own _ rfl _ _ 49 rfl u5.heap.size 42 iE (.agg #[.int .i64 0, .int .i64 0, .int .i64 0, .int .i64 0, .bool false]) 5 40 Tryz.underlying49 hiE hzE hsE hbE rfl (by omega) _ m (esC M) rfl hR ⟨wr.heap.size, 0, none⟩ 1 1 [.int .i64 3, .int .i64 1, .int .i64 0, .int .i64 1, .bool false] rfl rfl hnw hone (by simp [maxLen]; omega) (by omega) (by omega) ?_; intro v9 w6 ho6 hg6 _)
        obtain ⟨Vb, b6⟩ := Va.pushE (x := ⟨3, 1, 0, 1, false⟩) (by omega) ho6 hg6
        have bz := ba.trans b6
        have hXz := Nat.le_trans hXa b6.size
        clear Va hR hnw hone ho6 hg6 b6 ba hXa
        obtain ⟨va2, vc2, rfl, _⟩ := Evs.sl Vb
        go_wp2
        go_roundw
        case rel => exact ⟨m + 1, _, va2, vc2, rfl, by omega, Vb, HM2, hXz, bz⟩
        case measure => simp [lenOf]; omega
      · have hm60 : (60 : Int) ≤ (m : Int) := by omega
        obtain ⟨va9, vc9, hsl, hac9⟩ := Evs.sl V
        have hcap : 60 ≤ vc := by cases hsl; rcases hac9 with ⟨_, _, q⟩ | ⟨_, _, _, _, q, _⟩ <;> omega
        clear hsl hac9
        have hcap1 : (60 : Int) ≤ (vc : Int) := by omega
        have hE := evs_es V (unhide HM).1
        have HM9 := unhide HM
        have HZ := hide (show ∀ x ∈ M ++ [(⟨0, 0, 0, 0, false⟩ : Ev)], EvOk x from fun x hx => by rcases List.mem_append.1 hx with hx | hx; exact HM9.2 x hx; simp at hx; subst hx; unfold EvOk; decide)
        have HR1 := hide (fun (w' : World) (h : EsAt w' va M) => (by have := iRun (cap := vc) (M.take 60) w' (es_take h 60) (fun x hx => HM9.2 x (List.mem_of_mem_take hx)) (by rw [List.length_take]; omega); rw [show (M.take 60).length = 60 by rw [List.length_take]; omega] at this; exact this : Calls Tryz.prog 36 #[.slice va 60 vc] w' fun e w'' => RunPost w' (runP (M.take 60)) e w''))
        have HR2 := hide (fun (ga : Option Addr) (gc : Nat) (w' : World) (h : EsAt w' ga (M ++ [(⟨0, 0, 0, 0, false⟩ : Ev)])) => (by have := iRunN (cap := gc) (M ++ [(⟨0, 0, 0, 0, false⟩ : Ev)]) w' h (unhide HZ) (by rw [List.length_append, HM9.1]; simp; omega) (by rw [List.length_append, HM9.1]; simp; omega); rw [show (M ++ [(⟨0, 0, 0, 0, false⟩ : Ev)]).length = m + 1 by rw [List.length_append, HM9.1]; rfl] at this; exact this : Calls Tryz.prog 36 #[.slice ga (m + 1) gc] w' fun e w'' => NoPost w' e w''))
        have HL9 := hide (show (M ++ [(⟨0, 0, 0, 0, false⟩ : Ev)]).length = m + 1 by rw [List.length_append, HM9.1]; rfl)
        clear HM9 HZ HM
        have B := B.trans (bw.mono B.size)
        clear bw
        go_wp2_with fail
        refine (unhide HR1 _ hE).mono ?_
        rintro e u61 ⟨fo, m1, do9, m2, rfl, ho, b⟩
        replace hE := hE.below b
        replace V := V.below b
        replace hX := Nat.le_trans hX b.size
        replace B := B.trans (b.mono B.size)
        clear b
        clear ho HR1
        clear hE
        have b : Below u61.heap.size u61 (u61.alloc (.cells #[.slice fo 4 m1, .slice do9 6 m2] 26)) := (Below.refl _ _).alloc (Nat.le_refl _) _
        have bo := Bx.new u61 (.slice fo 4 m1) (.slice do9 6 m2) 26
        replace V := V.below b
        replace hX := Nat.le_trans hX b.size
        replace B := B.trans (b.mono B.size)
        clear b
        have bo0 := bo.c0
        have bo1 := bo.c1
        go_upto_region 12 with fail
        generalize u61.alloc (.cells #[.slice fo 4 m1, .slice do9 6 m2] 26) = v62 at *
        generalize u61.heap.size = bob at *
        clear bo bo0 bo1
        have bq : Below v62.heap.size v62 (v62.alloc (.cells #[.int .i64 0, .int .i64 0, .int .i64 0, .int .i64 0, .bool false] 42)) := (Below.refl _ _).alloc (Nat.le_refl _) _
        have Vz := Evs.below V bq
        have nw := CsAt.new v62 [.int .i64 0, .int .i64 0, .int .i64 0, .int .i64 0, .bool false] 42
        have hnw := src_mid nw.cells
        have hR := Vz.row
        have hone := EvS.one_evC ⟨0, 0, 0, 0, false⟩
        have Bz := B.trans (bq.mono B.size)
        have hXb := Nat.le_trans hX bq.size
        have HBZ := (show Tryz.prog.built 42 [] = some #[.int .i64 0, .int .i64 0, .int .i64 0, .int .i64 0, .bool false] by kernel_rfl)
        clear V bq nw hX B
        go_wp2_with (refine wpList_append_own _ rfl _ _ 49 rfl u5.heap.size 42 iE (.agg #[.int .i64 0, .int .i64 0, .int .i64 0, .int .i64 0, .bool false]) 5 40 Tryz.underlying49 hiE hzE hsE hbE rfl (by omega) _ m (esC M) rfl hR ⟨v62.heap.size, 0, none⟩ 1 1 [.int .i64 0, .int .i64 0, .int .i64 0, .int .i64 0, .bool false] rfl rfl hnw hone (by simp [maxLen]; omega) (by omega) (by omega) ?_; intro v9 w6 ho6 hg6 _)
        obtain ⟨Vb, b6⟩ := Vz.pushE (x := ⟨0, 0, 0, 0, false⟩) (by omega) ho6 hg6
        obtain ⟨ga, gc, rfl, _⟩ := Evs.sl Vb
        have hE2 := evs_es Vb (unhide HL9)
        have B := Bz.trans (b6.mono (by have := unhide HUW; omega))
        clear Vz hR hnw hone ho6 hg6 b6 Bz hXb Vb
        go_wp2_with fail
        refine (unhide HR2 _ _ _ hE2).mono ?_
        rintro e u63 ⟨rfl, b⟩
        replace B := B.trans (b.mono B.size)
        clear b
        clear hE2
        have b : Below u63.heap.size u63 (u63.alloc (.cells #[.slice none 0 0, .slice none 0 0] 26)) := (Below.refl _ _).alloc (Nat.le_refl _) _
        have bt := Bx.new u63 (.slice none 0 0) (.slice none 0 0) 26
        replace B := B.trans (b.mono B.size)
        clear b
        have bt0 := bt.c0
        have bt1 := bt.c1
        go_wp2_with fail
        generalize u63.alloc (.cells #[.slice none 0 0, .slice none 0 0] 26) = v64 at *
        generalize u63.heap.size = btb at *
        clear bt bt0 bt1
        refine (iRun (cap := 0) (a := none) [] _ (.inl rfl) (fun x hx => by simp at hx) (by simp)).mono ?_
        rintro e u65 ⟨fn, n1, dn, n2, rfl, hn, b⟩
        replace B := B.trans (b.mono B.size)
        clear b
        have b : Below u65.heap.size u65 (u65.alloc (.cells #[.slice fn 4 n1, .slice dn 6 n2] 26)) := (Below.refl _ _).alloc (Nat.le_refl _) _
        have bn := Bx.new u65 (.slice fn 4 n1) (.slice dn 6 n2) 26
        replace hn := hn.below b
        replace B := B.trans (b.mono B.size)
        clear b
        have bn0 := bn.c0
        have bn1 := bn.c1
        go_upto_region 14 with fail
        generalize u65.alloc (.cells #[.slice fn 4 n1, .slice dn 6 n2] 26) = v66 at *
        generalize u65.heap.size = bnb at *
        refine wp_region_noPanic ?_
        refine wp_region_held_drew (S := fun w' => Kept [] v66 w') (by kernel_rfl) (Kept.refl _ _).drew (fun hHeld => ?_)
        generalize v66.drew = y0 at *
        have z0 := hHeld.size
        refine takeL 0 (.bool true) rfl (by kernel_rfl) (by kernel_rfl) (by kernel_rfl) (fun _ _ _ h => h) (Or.inl ⟨rfl, fun _ _ => rfl⟩) hHeld ?_
        try simp only [Act.put, List.setIfInBounds_toArray, List.set_cons_zero, List.set_cons_succ]
        refine takeL 1 (.bool true) rfl (by kernel_rfl) (by kernel_rfl) (by kernel_rfl) (fun _ _ _ h => h) (Or.inl ⟨rfl, fun _ _ => rfl⟩) hHeld ?_
        try simp only [Act.put, List.setIfInBounds_toArray, List.set_cons_zero, List.set_cons_succ]
        refine takeL 2 (.bool false) rfl (by kernel_rfl) (by kernel_rfl) (by kernel_rfl) (fun _ _ _ h => h) (Or.inl ⟨rfl, fun _ _ => rfl⟩) hHeld ?_
        try simp only [Act.put, List.setIfInBounds_toArray, List.set_cons_zero, List.set_cons_succ]
        refine takeL 3 (.bool true) rfl (by kernel_rfl) (by kernel_rfl) (by kernel_rfl) (fun _ _ _ h => h) (Or.inl ⟨rfl, fun w9 hSw => by go_simp⟩) hHeld ?_
        try simp only [Act.put, List.setIfInBounds_toArray, List.set_cons_zero, List.set_cons_succ]
        refine takeL 4 (.bool true) rfl (by kernel_rfl) (by kernel_rfl) (by kernel_rfl) (fun _ _ _ h => h) (Or.inl ⟨rfl, fun w9 hSw => by go_simp⟩) hHeld ?_
        try simp only [Act.put, List.setIfInBounds_toArray, List.set_cons_zero, List.set_cons_succ]
        refine takeL 5 (.bool true) rfl (by kernel_rfl) (by kernel_rfl) (by kernel_rfl) (fun _ _ _ h => h) (Or.inl ⟨rfl, fun _ _ => rfl⟩) hHeld ?_
        try simp only [Act.put, List.setIfInBounds_toArray, List.set_cons_zero, List.set_cons_succ]
        refine takeL 6 (.bool true) rfl (by kernel_rfl) (by kernel_rfl) (by kernel_rfl) (fun _ _ _ h => h) (Or.inl ⟨rfl, fun _ _ => rfl⟩) hHeld ?_
        try simp only [Act.put, List.setIfInBounds_toArray, List.set_cons_zero, List.set_cons_succ]
        refine takeL 7 (.bool true) rfl (by kernel_rfl) (by kernel_rfl) (by kernel_rfl) (fun _ _ _ h => h) (Or.inl ⟨rfl, fun w9 hSw => by go_simp⟩) hHeld ?_
        try simp only [Act.put, List.setIfInBounds_toArray, List.set_cons_zero, List.set_cons_succ]
        refine takeL 8 (.bool true) rfl (by kernel_rfl) (by kernel_rfl) (by kernel_rfl) (fun _ _ _ h => h) (Or.inl ⟨rfl, fun _ _ => rfl⟩) hHeld ?_
        try simp only [Act.put, List.setIfInBounds_toArray, List.set_cons_zero, List.set_cons_succ]
        refine takeL 9 (.agg #[.slice fn 4 n1, .slice dn 6 n2]) rfl (by kernel_rfl) (by kernel_rfl) (by kernel_rfl) (fun _ _ _ h => h) (yieldsIf_load_mid rfl 26 _ rfl bnb 0 rfl [.slice fn 4 n1, .slice dn 6 n2] _ (fun _ h => rng2 (bn.below (Kept.all h (by simp)))) Tryz.underlying26 rfl (unhide HSS)) hHeld ?_
        try simp only [Act.put, List.setIfInBounds_toArray, List.set_cons_zero, List.set_cons_succ]
        refine oneL 10 rfl (by kernel_rfl) rfl (fun K hK => ?_)
        go_simp
        refine (newS_any _).mono ?_
        rintro e y1 ⟨g9, d9, rfl, hz, b⟩
        go_wp2_with fail
        refine hK.out _ _ (hHeld.trans (Kept.of b)) (fun hHeld => ?_)
        clear hK K
        try simp only [Act.put, List.setIfInBounds_toArray, List.set_cons_zero, List.set_cons_succ]
        have z1 := b.size
        clear b
        refine oneL 11 rfl (by kernel_rfl) rfl (fun K hK => ?_)
        go_simp
        refine (lqEq (B := zFs) (K := zDk6) _ (hn.below (Kept.all hHeld (by simp))) ⟨hz, by decide⟩).mono ?_
        rintro e y2 ⟨rfl, b⟩
        go_wp2_with fail
        replace hz := hz.below b
        refine hK.out _ _ (hHeld.trans (Kept.of b)) (fun hHeld => ?_)
        clear hK K
        try simp only [Act.put, List.setIfInBounds_toArray, List.set_cons_zero, List.set_cons_succ]
        have z2 := b.size
        clear b
        refine takeL 12 (.bool true) rfl (by kernel_rfl) (by kernel_rfl) (by kernel_rfl) (fun _ _ _ h => h) (Or.inl ⟨rfl, fun w9 hSw => by go_simp⟩) hHeld ?_
        try simp only [Act.put, List.setIfInBounds_toArray, List.set_cons_zero, List.set_cons_succ]
        refine takeL 13 (.bool true) rfl (by kernel_rfl) (by kernel_rfl) (by kernel_rfl) (fun _ _ _ h => h) (Or.inl ⟨rfl, fun _ _ => rfl⟩) hHeld ?_
        try simp only [Act.put, List.setIfInBounds_toArray, List.set_cons_zero, List.set_cons_succ]
        refine wpAnyH_done (by kernel_rfl) ?_ _
        refine NoPanic.normal ?_
        have B2 := B.trans ((Kept.all hHeld (by simp)).mono B.size)
        clear hHeld
        go_wp2
        go_ret
        exact ⟨rfl, B2⟩
  have hl60 : L.length ≤ 60 := by omega
  clear h60
  have HI := hide (fun (w' : World) (h : EsAt w' ea L) => iRunI (cap := ec) L w' h (unhide HEV) hl60)
  have HS := hide (fun (w' : World) (h : EsAt w' ea L) => sRun (cap := ec) L w' h hl60)
  have HST := hide (runP_st L)
  generalize runP L = P at *
  obtain ⟨BB, KK⟩ := P
  go_wp2_with fail
  refine (unhide HI _ hE).mono ?_
  rintro e u1 ⟨fa, c1, da, c2, rfl, hI, b⟩
  replace hE := hE.below b
  replace hUw := Nat.le_trans hUw b.size
  replace B := B.trans (b.mono B.size)
  clear b
  have hs : SO _ fa da BB KK := so_of hI (unhide HST)
  obtain ⟨loI, hiI, hJ, hlI⟩ : ∃ lo hi, InT u1 lo hi (.slice fa 4 c1) (.slice da 6 c2) true BB KK ∧ hi ≤ u1.heap.size := ⟨_, _, hI, Nat.le_refl _⟩
  clear hI
  have b : Below u1.heap.size u1 (u1.alloc (.cells #[.slice fa 4 c1, .slice da 6 c2] 26)) := (Below.refl _ _).alloc (Nat.le_refl _) _
  have bs := Bx.new u1 (.slice fa 4 c1) (.slice da 6 c2) 26
  replace hE := hE.below b
  replace hs := hs.below b
  replace hJ := hJ.below b
  replace hUw := Nat.le_trans hUw b.size
  replace hlI := Nat.le_trans hlI b.size
  replace B := B.trans (b.mono B.size)
  clear b
  have bs0 := bs.c0
  have bs1 := bs.c1
  go_wp2_with fail
  generalize u1.alloc (.cells #[.slice fa 4 c1, .slice da 6 c2] 26) = v2 at *
  generalize u1.heap.size = bsb at *
  refine (unhide HS _ hE).mono ?_
  rintro e u3 ⟨fw, c3, dw, c4, rfl, hw, b⟩
  replace hE := hE.below b
  replace hs := hs.below b
  replace hJ := hJ.below b
  replace bs := bs.below b
  clear bs0 bs1
  have bs0 := bs.c0
  have bs1 := bs.c1
  replace hUw := Nat.le_trans hUw b.size
  replace hlI := Nat.le_trans hlI b.size
  replace B := B.trans (b.mono B.size)
  clear b
  have b : Below u3.heap.size u3 (u3.alloc (.cells #[.slice fw 4 c3, .slice dw 6 c4] 26)) := (Below.refl _ _).alloc (Nat.le_refl _) _
  have bw := Bx.new u3 (.slice fw 4 c3) (.slice dw 6 c4) 26
  replace hE := hE.below b
  replace hs := hs.below b
  replace hJ := hJ.below b
  replace hw := hw.below b
  replace bs := bs.below b
  clear bs0 bs1
  have bs0 := bs.c0
  have bs1 := bs.c1
  replace hUw := Nat.le_trans hUw b.size
  replace hlI := Nat.le_trans hlI b.size
  replace B := B.trans (b.mono B.size)
  clear b
  have bw0 := bw.c0
  have bw1 := bw.c1
  go_wp2_with fail
  generalize u3.alloc (.cells #[.slice fw 4 c3, .slice dw 6 c4] 26) = v4 at *
  generalize u3.heap.size = bwb at *
  refine (lqEq _ hs hw).mono ?_
  rintro e u5 ⟨rfl, b⟩
  replace hE := hE.below b
  replace hs := hs.below b
  replace hJ := hJ.below b
  replace hw := hw.below b
  replace bs := bs.below b
  clear bs0 bs1
  have bs0 := bs.c0
  have bs1 := bs.c1
  replace bw := bw.below b
  clear bw0 bw1
  have bw0 := bw.c0
  have bw1 := bw.c1
  replace hUw := Nat.le_trans hUw b.size
  replace hlI := Nat.le_trans hlI b.size
  replace B := B.trans (b.mono B.size)
  clear b
  clear bw bw0 bw1
  clear hw
  clear HI HS
  clear hJ
  clear hlI
  clear hs
  clear bs bs0 bs1
  have HUW := hide hUw
  clear HST hUw
  have hl61 : L.length ≤ 61 := by have := unhide HLC; omega
  have HSS := hide (show (Tryz.prog.info? 26).map (·.size) = some 2 by kernel_rfl)
  have HSE := hide (show (Tryz.prog.info? 42).map (·.size) = some 5 by kernel_rfl)
  obtain ⟨iE, hiE, hzE, hsE, hbE⟩ := infoE
  have hE0 := hide hE
  have b9 : Below u5.heap.size u5 (u5.alloc (.cells #[] 42)) := (Below.refl _ _).alloc (Nat.le_refl _) _
  have hEa := hE.below b9
  have V0 := Evs.nil u5
  have hR0 := V0.row
  have hsz0 := b9.size
  have hacE : (ea = none ∧ ec = 0 ∧ L.length = 0) ∨ ∃ g, ea = some ⟨g, 0, none⟩ := by rcases unhide HAC with h | ⟨g, h, _⟩; exact .inl h; exact .inr ⟨g, h⟩
  clear hE
  go_wp2_with (refine wpList_append_es rfl _ _ 49 rfl u5.heap.size 42 iE (.agg #[.int .i64 0, .int .i64 0, .int .i64 0, .int .i64 0, .bool false]) 5 40 Tryz.underlying49 hiE hzE hsE hbE rfl (by omega) rfl _ 0 [] rfl hR0 ea ec L hEa hacE rfl (by simp [maxLen]; omega) (by omega) (by omega) ?_; intro v1 w9 ho9 hg9)
  obtain ⟨V1, b1⟩ := V0.pushN (by omega) ho9 hg9
  replace b9 := b9.trans (b1.mono (Nat.le_refl _))
  have hq9 := b9.size
  rw [Nat.zero_add, List.nil_append] at V1
  clear V0 hR0 ho9 hg9 b1 hEa hsz0 hacE
  obtain ⟨wa, wc, rfl, hwa⟩ := Evs.sl V1
  clear hwa
  go_wp2
  go_loopw [8] (fun v w' => ∃ (m : Nat) (M : List Ev) (va : Option Addr) (vc : Nat), v = .slice va m vc ∧ m ≤ 61 ∧ Evs w' u5.heap.size (.slice va m vc) m (esC M) ∧ Hid (M.length = m ∧ ∀ x ∈ M, EvOk x) ∧ u5.heap.size ≤ w'.heap.size ∧ Below u5.heap.size u5 w') (fun v _ => 61 - lenOf v)
  case atStart => exact ⟨L.length, L, wa, wc, rfl, hl61, V1, hide ⟨rfl, unhide HEV⟩, hq9, b9⟩
  case round =>
    clear V1 hq9 b9
    obtain ⟨m, M, va, vc, rfl, hm, V, HM, hX, bw⟩ := hrel
    by_cases h60m : m < 60
    · have hmi : (m : Int) < 60 := by omega
      have bB : Below wr.heap.size wr (wr.alloc (.cells #[.int .i64 3, .int .i64 1, .int .i64 0, .int .i64 1, .bool false] 42)) := (Below.refl _ _).alloc (Nat.le_refl _) _
      have Va := Evs.below V bB
      have nw := CsAt.new wr [.int .i64 3, .int .i64 1, .int .i64 0, .int .i64 1, .bool false] 42
      have hnw := src_mid nw.cells
      have hR := Va.row
      have hone := EvS.one_evC ⟨3, 1, 0, 1, false⟩
      have ba := bw.trans (bB.mono (by have := bw.size; omega))
      have hXa := Nat.le_trans hX bB.size
      have HM2 : Hid ((M ++ [(⟨3, 1, 0, 1, false⟩ : Ev)]).length = m + 1 ∧ ∀ x ∈ M ++ [(⟨3, 1, 0, 1, false⟩ : Ev)], EvOk x) := hide ⟨by rw [List.length_append, (unhide HM).1]; rfl, fun x hx => by rcases List.mem_append.1 hx with hx | hx; exact (unhide HM).2 x hx; simp at hx; subst hx; unfold EvOk; decide⟩
      have HBE := (show Tryz.prog.built 42 [(0, .int .i64 3), (1, .int .i64 1), (3, .int .i64 1)] = some #[.int .i64 3, .int .i64 1, .int .i64 0, .int .i64 1, .bool false] by kernel_rfl)
      clear V bB nw hX bw HM
      go_wp2_with (refine wpList_append_own _ rfl _ _ 49 rfl u5.heap.size 42 iE (.agg #[.int .i64 0, .int .i64 0, .int .i64 0, .int .i64 0, .bool false]) 5 40 Tryz.underlying49 hiE hzE hsE hbE rfl (by omega) _ m (esC M) rfl hR ⟨wr.heap.size, 0, none⟩ 1 1 [.int .i64 3, .int .i64 1, .int .i64 0, .int .i64 1, .bool false] rfl rfl hnw hone (by simp [maxLen]; omega) (by omega) (by omega) ?_; intro v9 w6 ho6 hg6 _)
      obtain ⟨Vb, b6⟩ := Va.pushE (x := ⟨3, 1, 0, 1, false⟩) (by omega) ho6 hg6
      have bz := ba.trans b6
      have hXz := Nat.le_trans hXa b6.size
      clear Va hR hnw hone ho6 hg6 b6 ba hXa
      obtain ⟨va2, vc2, rfl, _⟩ := Evs.sl Vb
      go_wp2
      go_roundw
      case rel => exact ⟨m + 1, _, va2, vc2, rfl, by omega, Vb, HM2, hXz, bz⟩
      case measure => simp [lenOf]; omega
    · have hm60 : (60 : Int) ≤ (m : Int) := by omega
      obtain ⟨va9, vc9, hsl, hac9⟩ := Evs.sl V
      have hcap : 60 ≤ vc := by cases hsl; rcases hac9 with ⟨_, _, q⟩ | ⟨_, _, _, _, q, _⟩ <;> omega
      clear hsl hac9
      have hcap1 : (60 : Int) ≤ (vc : Int) := by omega
      have hE := evs_es V (unhide HM).1
      have HM9 := unhide HM
      have HZ := hide (show ∀ x ∈ M ++ [(⟨0, 0, 0, 0, false⟩ : Ev)], EvOk x from fun x hx => by rcases List.mem_append.1 hx with hx | hx; exact HM9.2 x hx; simp at hx; subst hx; unfold EvOk; decide)
      have HR1 := hide (fun (w' : World) (h : EsAt w' va M) => (by have := iRun (cap := vc) (M.take 60) w' (es_take h 60) (fun x hx => HM9.2 x (List.mem_of_mem_take hx)) (by rw [List.length_take]; omega); rw [show (M.take 60).length = 60 by rw [List.length_take]; omega] at this; exact this : Calls Tryz.prog 36 #[.slice va 60 vc] w' fun e w'' => RunPost w' (runP (M.take 60)) e w''))
      have HR2 := hide (fun (ga : Option Addr) (gc : Nat) (w' : World) (h : EsAt w' ga (M ++ [(⟨0, 0, 0, 0, false⟩ : Ev)])) => (by have := iRunN (cap := gc) (M ++ [(⟨0, 0, 0, 0, false⟩ : Ev)]) w' h (unhide HZ) (by rw [List.length_append, HM9.1]; simp; omega) (by rw [List.length_append, HM9.1]; simp; omega); rw [show (M ++ [(⟨0, 0, 0, 0, false⟩ : Ev)]).length = m + 1 by rw [List.length_append, HM9.1]; rfl] at this; exact this : Calls Tryz.prog 36 #[.slice ga (m + 1) gc] w' fun e w'' => NoPost w' e w''))
      have HL9 := hide (show (M ++ [(⟨0, 0, 0, 0, false⟩ : Ev)]).length = m + 1 by rw [List.length_append, HM9.1]; rfl)
      clear HM9 HZ HM
      have B := B.trans (bw.mono B.size)
      clear bw
      go_wp2_with fail
      refine (unhide HR1 _ hE).mono ?_
      rintro e u61 ⟨fo, m1, do9, m2, rfl, ho, b⟩
      replace hE := hE.below b
      replace V := V.below b
      replace hX := Nat.le_trans hX b.size
      replace B := B.trans (b.mono B.size)
      clear b
      clear ho HR1
      clear hE
      have b : Below u61.heap.size u61 (u61.alloc (.cells #[.slice fo 4 m1, .slice do9 6 m2] 26)) := (Below.refl _ _).alloc (Nat.le_refl _) _
      have bo := Bx.new u61 (.slice fo 4 m1) (.slice do9 6 m2) 26
      replace V := V.below b
      replace hX := Nat.le_trans hX b.size
      replace B := B.trans (b.mono B.size)
      clear b
      have bo0 := bo.c0
      have bo1 := bo.c1
      go_upto_region 12 with fail
      generalize u61.alloc (.cells #[.slice fo 4 m1, .slice do9 6 m2] 26) = v62 at *
      generalize u61.heap.size = bob at *
      clear bo bo0 bo1
      have bq : Below v62.heap.size v62 (v62.alloc (.cells #[.int .i64 0, .int .i64 0, .int .i64 0, .int .i64 0, .bool false] 42)) := (Below.refl _ _).alloc (Nat.le_refl _) _
      have Vz := Evs.below V bq
      have nw := CsAt.new v62 [.int .i64 0, .int .i64 0, .int .i64 0, .int .i64 0, .bool false] 42
      have hnw := src_mid nw.cells
      have hR := Vz.row
      have hone := EvS.one_evC ⟨0, 0, 0, 0, false⟩
      have Bz := B.trans (bq.mono B.size)
      have hXb := Nat.le_trans hX bq.size
      have HBZ := (show Tryz.prog.built 42 [] = some #[.int .i64 0, .int .i64 0, .int .i64 0, .int .i64 0, .bool false] by kernel_rfl)
      clear V bq nw hX B
      go_wp2_with (refine wpList_append_own _ rfl _ _ 49 rfl u5.heap.size 42 iE (.agg #[.int .i64 0, .int .i64 0, .int .i64 0, .int .i64 0, .bool false]) 5 40 Tryz.underlying49 hiE hzE hsE hbE rfl (by omega) _ m (esC M) rfl hR ⟨v62.heap.size, 0, none⟩ 1 1 [.int .i64 0, .int .i64 0, .int .i64 0, .int .i64 0, .bool false] rfl rfl hnw hone (by simp [maxLen]; omega) (by omega) (by omega) ?_; intro v9 w6 ho6 hg6 _)
      obtain ⟨Vb, b6⟩ := Vz.pushE (x := ⟨0, 0, 0, 0, false⟩) (by omega) ho6 hg6
      obtain ⟨ga, gc, rfl, _⟩ := Evs.sl Vb
      have hE2 := evs_es Vb (unhide HL9)
      have B := Bz.trans (b6.mono (by have := unhide HUW; omega))
      clear Vz hR hnw hone ho6 hg6 b6 Bz hXb Vb
      go_wp2_with fail
      refine (unhide HR2 _ _ _ hE2).mono ?_
      rintro e u63 ⟨rfl, b⟩
      replace B := B.trans (b.mono B.size)
      clear b
      clear hE2
      have b : Below u63.heap.size u63 (u63.alloc (.cells #[.slice none 0 0, .slice none 0 0] 26)) := (Below.refl _ _).alloc (Nat.le_refl _) _
      have bt := Bx.new u63 (.slice none 0 0) (.slice none 0 0) 26
      replace B := B.trans (b.mono B.size)
      clear b
      have bt0 := bt.c0
      have bt1 := bt.c1
      go_wp2_with fail
      generalize u63.alloc (.cells #[.slice none 0 0, .slice none 0 0] 26) = v64 at *
      generalize u63.heap.size = btb at *
      clear bt bt0 bt1
      refine (iRun (cap := 0) (a := none) [] _ (.inl rfl) (fun x hx => by simp at hx) (by simp)).mono ?_
      rintro e u65 ⟨fn, n1, dn, n2, rfl, hn, b⟩
      replace B := B.trans (b.mono B.size)
      clear b
      have b : Below u65.heap.size u65 (u65.alloc (.cells #[.slice fn 4 n1, .slice dn 6 n2] 26)) := (Below.refl _ _).alloc (Nat.le_refl _) _
      have bn := Bx.new u65 (.slice fn 4 n1) (.slice dn 6 n2) 26
      replace hn := hn.below b
      replace B := B.trans (b.mono B.size)
      clear b
      have bn0 := bn.c0
      have bn1 := bn.c1
      go_upto_region 14 with fail
      generalize u65.alloc (.cells #[.slice fn 4 n1, .slice dn 6 n2] 26) = v66 at *
      generalize u65.heap.size = bnb at *
      refine wp_region_noPanic ?_
      refine wp_region_held_drew (S := fun w' => Kept [] v66 w') (by kernel_rfl) (Kept.refl _ _).drew (fun hHeld => ?_)
      generalize v66.drew = y0 at *
      have z0 := hHeld.size
      refine takeL 0 (.bool true) rfl (by kernel_rfl) (by kernel_rfl) (by kernel_rfl) (fun _ _ _ h => h) (Or.inl ⟨rfl, fun _ _ => rfl⟩) hHeld ?_
      try simp only [Act.put, List.setIfInBounds_toArray, List.set_cons_zero, List.set_cons_succ]
      refine takeL 1 (.bool true) rfl (by kernel_rfl) (by kernel_rfl) (by kernel_rfl) (fun _ _ _ h => h) (Or.inl ⟨rfl, fun _ _ => rfl⟩) hHeld ?_
      try simp only [Act.put, List.setIfInBounds_toArray, List.set_cons_zero, List.set_cons_succ]
      refine takeL 2 (.bool false) rfl (by kernel_rfl) (by kernel_rfl) (by kernel_rfl) (fun _ _ _ h => h) (Or.inl ⟨rfl, fun _ _ => rfl⟩) hHeld ?_
      try simp only [Act.put, List.setIfInBounds_toArray, List.set_cons_zero, List.set_cons_succ]
      refine takeL 3 (.bool true) rfl (by kernel_rfl) (by kernel_rfl) (by kernel_rfl) (fun _ _ _ h => h) (Or.inl ⟨rfl, fun w9 hSw => by go_simp⟩) hHeld ?_
      try simp only [Act.put, List.setIfInBounds_toArray, List.set_cons_zero, List.set_cons_succ]
      refine takeL 4 (.bool true) rfl (by kernel_rfl) (by kernel_rfl) (by kernel_rfl) (fun _ _ _ h => h) (Or.inl ⟨rfl, fun w9 hSw => by go_simp⟩) hHeld ?_
      try simp only [Act.put, List.setIfInBounds_toArray, List.set_cons_zero, List.set_cons_succ]
      refine takeL 5 (.bool true) rfl (by kernel_rfl) (by kernel_rfl) (by kernel_rfl) (fun _ _ _ h => h) (Or.inl ⟨rfl, fun _ _ => rfl⟩) hHeld ?_
      try simp only [Act.put, List.setIfInBounds_toArray, List.set_cons_zero, List.set_cons_succ]
      refine takeL 6 (.bool true) rfl (by kernel_rfl) (by kernel_rfl) (by kernel_rfl) (fun _ _ _ h => h) (Or.inl ⟨rfl, fun _ _ => rfl⟩) hHeld ?_
      try simp only [Act.put, List.setIfInBounds_toArray, List.set_cons_zero, List.set_cons_succ]
      refine takeL 7 (.bool true) rfl (by kernel_rfl) (by kernel_rfl) (by kernel_rfl) (fun _ _ _ h => h) (Or.inl ⟨rfl, fun w9 hSw => by go_simp⟩) hHeld ?_
      try simp only [Act.put, List.setIfInBounds_toArray, List.set_cons_zero, List.set_cons_succ]
      refine takeL 8 (.bool true) rfl (by kernel_rfl) (by kernel_rfl) (by kernel_rfl) (fun _ _ _ h => h) (Or.inl ⟨rfl, fun _ _ => rfl⟩) hHeld ?_
      try simp only [Act.put, List.setIfInBounds_toArray, List.set_cons_zero, List.set_cons_succ]
      refine takeL 9 (.agg #[.slice fn 4 n1, .slice dn 6 n2]) rfl (by kernel_rfl) (by kernel_rfl) (by kernel_rfl) (fun _ _ _ h => h) (yieldsIf_load_mid rfl 26 _ rfl bnb 0 rfl [.slice fn 4 n1, .slice dn 6 n2] _ (fun _ h => rng2 (bn.below (Kept.all h (by simp)))) Tryz.underlying26 rfl (unhide HSS)) hHeld ?_
      try simp only [Act.put, List.setIfInBounds_toArray, List.set_cons_zero, List.set_cons_succ]
      refine oneL 10 rfl (by kernel_rfl) rfl (fun K hK => ?_)
      go_simp
      refine (newS_any _).mono ?_
      rintro e y1 ⟨g9, d9, rfl, hz, b⟩
      go_wp2_with fail
      refine hK.out _ _ (hHeld.trans (Kept.of b)) (fun hHeld => ?_)
      clear hK K
      try simp only [Act.put, List.setIfInBounds_toArray, List.set_cons_zero, List.set_cons_succ]
      have z1 := b.size
      clear b
      refine oneL 11 rfl (by kernel_rfl) rfl (fun K hK => ?_)
      go_simp
      refine (lqEq (B := zFs) (K := zDk6) _ (hn.below (Kept.all hHeld (by simp))) ⟨hz, by decide⟩).mono ?_
      rintro e y2 ⟨rfl, b⟩
      go_wp2_with fail
      replace hz := hz.below b
      refine hK.out _ _ (hHeld.trans (Kept.of b)) (fun hHeld => ?_)
      clear hK K
      try simp only [Act.put, List.setIfInBounds_toArray, List.set_cons_zero, List.set_cons_succ]
      have z2 := b.size
      clear b
      refine takeL 12 (.bool true) rfl (by kernel_rfl) (by kernel_rfl) (by kernel_rfl) (fun _ _ _ h => h) (Or.inl ⟨rfl, fun w9 hSw => by go_simp⟩) hHeld ?_
      try simp only [Act.put, List.setIfInBounds_toArray, List.set_cons_zero, List.set_cons_succ]
      refine takeL 13 (.bool true) rfl (by kernel_rfl) (by kernel_rfl) (by kernel_rfl) (fun _ _ _ h => h) (Or.inl ⟨rfl, fun _ _ => rfl⟩) hHeld ?_
      try simp only [Act.put, List.setIfInBounds_toArray, List.set_cons_zero, List.set_cons_succ]
      refine wpAnyH_done (by kernel_rfl) ?_ _
      refine NoPanic.normal ?_
      have B2 := B.trans ((Kept.all hHeld (by simp)).mono B.size)
      clear hHeld
      go_wp2
      go_ret
      exact ⟨rfl, B2⟩


set_option maxRecDepth 100000 in
theorem lifted (os : Os) (started : os.Started) (H : Type) (enc : TypeId × Value → H) :
    ReturnsInHanded {} Tryz.checked os 19 .any (Rows.fnRunManySpec.pre6 enc Tryz.prog Tryz.f19 Rows.fnRunManyRow.domain false) (Rows.fnRunManySpec.post enc Tryz.prog Tryz.f19 false true false false) := by
  refine returnsInHanded_of_change (C := Tryz.checked) own started (by kernel_rfl) Tryz.func19
    (ChangeSpec.witness6 (enc := enc) (C := Tryz.checked) false ⟨#[], #[.slice none 0 0], []⟩ 8 (by kernel_rfl) (by kernel_rfl) (by kernel_rfl) (by kernel_rfl)) ?_
  intro W base args ds gs before hval0 hW hcnd _
  have hval : ∀ (j : Nat) t v, Tryz.f19.params[j]? = some t → args[j]? = some v → Value.okWide Tryz.prog W .any base t v := hval0
  have hW' := hW
  obtain ⟨p, q, hA0, hV, rfl, hfz, hnd⟩ := hW
  have hA : DataW.TrodAll enc Tryz.prog W 0 (fun _ => true) true Tryz.f19.params.toList args.toList ds p := hA0
  rw [Tryz.params19] at hA hval
  obtain ⟨v0, vs0, d0, ds0, p0, q0, hargs, rfl, rfl, h0, r0⟩ := trodAll_cons hA
  obtain ⟨rfl, rfl, rfl⟩ := trodAll_nil r0
  obtain rfl : args = #[v0] := by cases args; simp_all
  obtain ⟨rfl, rfl⟩ := trodVars_none hV
  have kk0 := h0
  have lt0 : ∀ x ∈ p0, x.block < W.heap.size := by obtain ⟨m, hm⟩ := kk0; exact DataW.trod_lt m _ _ _ hm
  obtain ⟨a0, len0, cap0, rfl⟩ := okWide_slice Tryz.underlying22 (hval 0 22 v0 rfl rfl)
  obtain ⟨z0, w0⟩ : ∃ zs, IsRow .u8 W a0 len0 cap0 zs := by
    obtain ⟨fuel, hf⟩ := h0
    rcases open_ints Tryz.underlying22 Tryz.underlying5 (by kernel_rfl) hf with ⟨hcs, _⟩ | ⟨x, l, c, zs, hcs, _, hl, hm, hz, _, hcell, hwz⟩
    · simp [Value.cells] at hcs
      obtain ⟨rfl, rfl, rfl⟩ := hcs
      exact ⟨[], .inl ⟨rfl, rfl, rfl, rfl⟩⟩
    · simp [Value.cells] at hcs
      obtain ⟨rfl, rfl, rfl⟩ := hcs
      exact ⟨zs, .inr ⟨_, rfl, hl, hm, by simpa using hz, hcell, hwz⟩⟩
  clear hA0
  refine (walk a0 len0 cap0 z0 W w0).mono fun e W' ⟨he, bel⟩ => ?_
  subst he
  exact ⟨_, rfl, _, _, _, [], _, [], hW', trodAll_mk1 (shut_bool Tryz.underlying4 _), (trodAll_cons_mk (Below.trod laidOut (by kernel_rfl) (of_decide_eq_true (by kernel_rfl)) kk0 bel lt0) trodAll_mk0), rfl, bel.frame _, fun h => by cases h⟩

set_option maxRecDepth 100000 in
theorem facts : joinedFacts Tryz.prog 19 Tryz.f19 Rows.fnRunManySpec Rows.fnRunManyRow = true := by
  unfold joinedFacts
  refine Facts.and_t ?_ (by as_aux_lemma => kernel_rfl)
  refine Facts.and_t ?_ (by as_aux_lemma => kernel_rfl)
  refine Facts.and_t ?_ (by as_aux_lemma => kernel_rfl)
  refine Facts.and_t ?_ (by as_aux_lemma => kernel_rfl)
  refine Facts.and_t ?_ (by show (Tryz.prog.make == some Make.cut) = true; rw [Facts.made]; rfl)
  refine Facts.and_t ?_ (by show (false == Tryz.prog.liftsFinal) = true; rw [Facts.lifts]; rfl)
  refine Facts.and_t ?_ (Facts.enters)
  refine Facts.and_t ?_ (Facts.heard)
  refine Facts.and_t ?_ (rfl)
  refine Facts.and_t ?_ (by show (true == Tryz.prog.plainKeys) = true; rw [Facts.keys]; rfl)
  refine Facts.and_t ?_ (by as_aux_lemma => kernel_rfl)
  refine Facts.and_t ?_ (by as_aux_lemma => kernel_rfl)
  refine Facts.and_t ?_ (by as_aux_lemma => kernel_rfl)
  refine Facts.and_t ?_ (by as_aux_lemma => kernel_rfl)
  refine Facts.and_t ?_ (by as_aux_lemma => kernel_rfl)
  refine Facts.and_t ?_ (by as_aux_lemma => kernel_rfl)
  refine Facts.and_t ?_ (by as_aux_lemma => kernel_rfl)
  refine Facts.and_t ?_ (by as_aux_lemma => kernel_rfl)
  refine Facts.and_t ?_ (by as_aux_lemma => kernel_rfl)
  refine Facts.and_t ?_ (by as_aux_lemma => kernel_rfl)
  refine Facts.and_t ?_ (by as_aux_lemma => kernel_rfl)
  refine Facts.and_t ?_ (by as_aux_lemma => kernel_rfl)
  refine Facts.and_t ?_ (by as_aux_lemma => kernel_rfl)
  refine Facts.and_t ?_ (by as_aux_lemma => kernel_rfl)
  refine Facts.and_t ?_ (by as_aux_lemma => kernel_rfl)
  refine Facts.and_t ?_ (by as_aux_lemma => kernel_rfl)
  refine Facts.and_t ?_ (by as_aux_lemma => kernel_rfl)
  refine Facts.and_t ?_ (by as_aux_lemma => kernel_rfl)
  refine Facts.and_t ?_ (by as_aux_lemma => kernel_rfl)
  refine Facts.and_t ?_ (Facts.rowed)
  refine Facts.and_t ?_ (Facts.laidOut)
  kernel_rfl

theorem over : Rows.fnRunManyRow.holds Tryz.pinned (OpenSpec.ofChange Rows.fnRunManySpec) :=
  OpenClaim.holds_of_wide 19 Tryz.f19 rfl rfl rfl rfl rfl rfl rfl ⟨rfl, rfl, rfl, rfl, rfl⟩ rfl rfl rfl rfl rfl (by kernel_rfl) Tryz.func19 facts
    (of_decide_eq_true (by kernel_rfl)) (by unfold Func.isWrapper; first | (rw [if_pos (by decide +kernel)]; kernel_rfl) | (rw [if_neg (by decide +kernel)]; exact ⟨rfl, rfl⟩))
    (fun os started H enc _ => (lifted os started H enc))

end Go.Proofs.YtbiokmojjneleaaGreat.RunMany
namespace Go.Proofs.YtbiokmojjneleaaGreat
theorem fnRunMany_holds : Rows.FnRunManySaid := RunMany.over
end Go.Proofs.YtbiokmojjneleaaGreat
