/-
  The program's letting something happen, and what stands there then.
-/
import Derived.Test.YtogfelpdgeionaaGreatHcA
import Derived.Test.YtogfelpdgeionaaGreatHbX
import Derived.Test.YtogfelpdgeionaaGreatHbS
namespace Go.Proofs.YtogfelpdgeionaaGreat.PdC
open TwA Go.ChangeShapes Go.WideShapes Go.ChangeAt Go.RowKit Go.Shelf OkA Big Fl ImplB ImplF ImplS _root_.Go.Proofs.YtogfelpdgeionaaGreat.Own ImplT ImplU SpecA SpecB SpecC SpecD SpecW SpecF SpecG SpecH Ok2 Pl FindP ImplL Kp StA StB StC StD StE StF StG SpS SpT RmA WrA FlA DoA ToA PlA LawU LawS LawV LawI LawT LawW SpU TwB TwC QuB QuE SpV MkN Ct AlX PaA PaB DpX Cu PdA PdB EvL
set_option linter.unusedVariables false
set_option linter.unusedSimpArgs false
attribute [local go_sem ↓] Go.wp_at_zero Go.wp_at_succ

/-- The steps of an event that are begun. -/
def bgL (bs : List Bk) (dk : List Int) (x : Ev) : List Stp := if x.k = 4 then allL bs dk 6 else if x.c < 0 then [] else (evP bs dk x).take (begN x.c x.t (evP bs dk x).length)
def HpPost (w : World) (bs : List Bk) (dk : List Int) (x : Ev) (e : Ending) (w' : World) : Prop := ∃ X Y v, e = .returned (.tuple #[.agg #[X, Y], v]) ∧ InT w' w.heap.size w'.heap.size X Y (stB bs dk) (doP bs dk x).1 (doP bs dk x).2 ∧ Sts w' w.heap.size v (if stB bs dk then bgL bs dk x else []) ∧ Below w.heap.size w w'
theorem InT.congr {w : World} {lo hi : Nat} {x y : Value} {ok ok' : Bool} {B B' : List Bk} {K K' : List Int} (h : InT w lo hi x y ok B K) (ho : ok = ok') (e : ok' = true → B = B' ∧ K = K') : InT w lo hi x y ok' B' K' := by
  subst ho
  cases ok
  · rcases h with h | ⟨q, _⟩
    · exact .inl h
    · cases q
  · obtain ⟨rfl, rfl⟩ := e rfl
    exact h
/-- What the store is told to do: nothing, where it falls behind a number of steps below 0. -/
def xC (x : Ev) : Ev := if x.c < 0 then ⟨0, 0, 0, 0, false⟩ else x
theorem ev_tkS (bs : List Bk) (dk : List Int) (x : Ev) (hc : 0 ≤ x.c) : toOk bs dk (evS bs dk x) x.c = stB bs dk := by
  cases hs : stB bs dk
  · unfold toOk; rw [hs]; rfl
  · have : evS bs dk x = evP bs dk x := by unfold evS; rw [if_pos hs]
    rw [this]; exact ev_tk hs x x.c hc
theorem doP_of (bs : List Bk) (dk : List Int) (x : Ev) (h4 : ¬ x.k = 4) (hs : stB bs dk = true) : toB bs (evS bs dk (xC x)) (xC x).c (xC x).t = (doP bs dk x).1 ∧ toK dk (evS bs dk (xC x)) (xC x).c (xC x).t = (doP bs dk x).2 := by
  unfold doP xC evS
  rw [if_neg h4, if_pos hs]
  by_cases hc : x.c < 0
  · rw [if_pos hc, if_pos hc]
    exact to_nil 0 false
  · rw [if_neg hc, if_neg hc]
    exact ⟨rfl, rfl⟩
theorem bgL_of (bs : List Bk) (dk : List Int) (x : Ev) (h4 : ¬ x.k = 4) : (evS bs dk (xC x)).take (begN (xC x).c (xC x).t (evS bs dk (xC x)).length) = if stB bs dk then bgL bs dk x else [] := by
  unfold evS
  cases hs : stB bs dk
  · simp
  · rw [if_pos rfl, if_pos rfl]
    unfold bgL xC
    rw [if_neg h4]
    by_cases hc : x.c < 0
    · rw [if_pos hc, if_pos hc]; simp [evP]
    · rw [if_neg hc, if_neg hc]

set_option maxRecDepth 100000 in
set_option maxHeartbeats 4000000 in
theorem happen_i (x : Ev) (hx : EvOk x) (fa : Option Addr) (fc : Nat) (bs : List Bk) (da : Option Addr) (dc : Nat) (dk : List Int) (w : World) (h : SAt w fa bs da dk) (hm : bs.length ≤ 9223372036854775807) (hm2 : dk.length ≤ 9223372036854775807) :
    Calls Tryz.prog 134 #[.agg #[.int .i64 x.k, .int .i64 x.a, .int .i64 x.b, .int .i64 x.c, .bool x.t], .agg #[.slice fa bs.length fc, .slice da dk.length dc]] w fun e w' => HpPost w bs dk x e w' := by
  have B1 : Below w.heap.size w (((w.alloc (.cells #[.int .i64 x.k, .int .i64 x.a, .int .i64 x.b, .int .i64 x.c, .bool x.t] 62)).alloc (.cells #[.slice fa bs.length fc, .slice da dk.length dc] 26)).alloc (.cells #[.slice none 0 0, .slice none 0 0] 26)) := (((Below.refl _ _).alloc (Nat.le_refl _) _).alloc (by simp) _).alloc (by simp; omega) _
  have cE := ((CsAt.new w [.int .i64 x.k, .int .i64 x.a, .int .i64 x.b, .int .i64 x.c, .bool x.t] 62).alloc (by simp) (.cells #[.slice fa bs.length fc, .slice da dk.length dc] 26)).alloc (by simp; omega) (.cells #[.slice none 0 0, .slice none 0 0] 26)
  have cS := (store_box (w.alloc (.cells #[.int .i64 x.k, .int .i64 x.a, .int .i64 x.b, .int .i64 x.c, .bool x.t] 62)) (.slice fa bs.length fc) (.slice da dk.length dc)).alloc (by simp) (.cells #[.slice none 0 0, .slice none 0 0] 26)
  rw [World.size_alloc] at cS
  have cR := store_box ((w.alloc (.cells #[.int .i64 x.k, .int .i64 x.a, .int .i64 x.b, .int .i64 x.c, .bool x.t] 62)).alloc (.cells #[.slice fa bs.length fc, .slice da dk.length dc] 26)) (.slice none 0 0) (.slice none 0 0)
  rw [World.size_alloc, World.size_alloc] at cR
  have s0 : w.heap.size + 3 ≤ (((w.alloc (.cells #[.int .i64 x.k, .int .i64 x.a, .int .i64 x.b, .int .i64 x.c, .bool x.t] 62)).alloc (.cells #[.slice fa bs.length fc, .slice da dk.length dc] 26)).alloc (.cells #[.slice none 0 0, .slice none 0 0] 26)).heap.size := by simp
  have HA0 := hide h
  have HA1 := hide (h.below B1)
  have HM := hide (And.intro hm hm2)
  have HSS := hide (show (Tryz.prog.info? 26).map (·.size) = some 2 by kernel_rfl)
  have HSE := hide (show (Tryz.prog.info? 62).map (·.size) = some 5 by kernel_rfl)
  clear h hm hm2
  go_enter Tryz.func134, Tryz.ntmps134
  go_upto_region 1 with fail
  generalize ((w.alloc (.cells #[.int .i64 x.k, .int .i64 x.a, .int .i64 x.b, .int .i64 x.c, .bool x.t] 62)).alloc (.cells #[.slice fa bs.length fc, .slice da dk.length dc] 26)).alloc (.cells #[.slice none 0 0, .slice none 0 0] 26) = w1 at *
  by_cases h4 : x.k = 4
  · have h4b : (x.k == 4) = true := by simpa using h4
    have e0 := cE.cell 0 _ rfl
    have y0 := cS.cell 0 _ rfl
    have y1 := cS.cell 1 _ rfl
    have HFE := hide (each_any fa fc bs da dc dk w1 (unhide HA1) (unhide HM).1 (unhide HM).2)
    have HDP : Hid (doP bs dk x = allA bs dk 6) := if_pos h4
    have HDL : Hid (bgL bs dk x = allL bs dk 6) := if_pos h4
    clear h4
    go_wp2_with fail
    refine (unhide HFE).mono ?_
    rintro e w2 ⟨X, Y, v, rfl, I, hV, b2⟩
    obtain ⟨f1, n1, c1, f2, n2, c2, rfl, rfl⟩ := I.form
    have q2 := b2.size
    have cR2 := cR.below b2 (by omega)
    have B2 := B1.trans (b2.mono B1.size)
    clear e0 y0 y1 cE cS cR HFE HA1 b2 B1
    have d0 := cR2.cell 0 _ rfl
    have d1 := cR2.cell 1 _ rfl
    have f0 := cR2.frozen 0 (by simp)
    have f1' := cR2.frozen 1 (by simp)
    have p1 := cR2.put [.slice f1 n1 c1, .slice f2 n2 c2] rfl
    have kz := kept_cells w2 (w.heap.size + 1 + 1) 0 [.slice f1 n1 c1, .slice f2 n2 c2]
    have IZ := InT.mono (lo' := w.heap.size) (hi' := (w2.setCells (w.heap.size + 1 + 1) 0 [.slice f1 n1 c1, .slice f2 n2 c2]).heap.size) (I.only (OnlyG.kept kz) (fun z hz => .inl (by simp at hz; omega))) (by omega) (by rw [size_setCells]; omega)
    have VZ := (Sts.kept hV kz (fun z hz => by simp at hz; omega)).mono (lo' := w.heap.size) (by omega)
    have BZ := below_setCells (w.heap.size + 1 + 1) (by omega) [.slice f1 n1 c1, .slice f2 n2 c2] 0 _ B2
    have HP : Hid (HpPost w bs dk x (.returned (.tuple #[.agg #[.slice f1 n1 c1, .slice f2 n2 c2], v])) (w2.setCells (w.heap.size + 1 + 1) 0 [.slice f1 n1 c1, .slice f2 n2 c2])) := ⟨_, _, _, rfl, by rw [unhide HDP]; exact IZ, by rw [unhide HDL]; exact VZ, BZ⟩
    clear IZ VZ BZ I hV B2
    go_wp2
    exact bodyPost_ret (res_cell_tmp Tryz.results134 _ _ (w.heap.size + 1 + 1) [.slice f1 n1 c1, .slice f2 n2 c2] _ rfl p1.cells Tryz.underlying26 rfl (by kernel_rfl)) rfl (unhide HP)
  have h4b : (x.k == 4) = false := by simpa using h4
  have e0 := cE.cell 0 _ rfl
  have e3 := cE.cell 3 _ rfl
  by_cases hc : x.c < 0
  · have HXC : Hid (xC x = ⟨0, 0, 0, 0, false⟩) := if_pos hc
    have e1 := cE.cell 1 _ rfl
    have e2 := cE.cell 2 _ rfl
    have e4 := cE.cell 4 _ rfl
    have f0 := cE.frozen 0 (by simp)
    have f1 := cE.frozen 1 (by simp)
    have f2 := cE.frozen 2 (by simp)
    have f3 := cE.frozen 3 (by simp)
    have f4 := cE.frozen 4 (by simp)
    have kz := kept_cells w1 w.heap.size 0 [.int .i64 0, .int .i64 0, .int .i64 0, .int .i64 0, .bool false]
    have cEz := cE.put [.int .i64 0, .int .i64 0, .int .i64 0, .int .i64 0, .bool false] rfl
    have cSz := csAt_kept cS kz (by omega) (by simp)
    have cRz := csAt_kept cR kz (by omega) (by simp; omega)
    have Bz := below_setCells w.heap.size (Nat.le_refl _) [.int .i64 0, .int .i64 0, .int .i64 0, .int .i64 0, .bool false] 0 _ B1
    have HAz := hide ((unhide HA0).below Bz)
    have sz : w.heap.size + 3 ≤ (w1.setCells w.heap.size 0 [.int .i64 0, .int .i64 0, .int .i64 0, .int .i64 0, .bool false]).heap.size := by rw [size_setCells]; exact s0
    go_upto_region 5 with fail
    rw [show ((((w1.setCell ⟨w.heap.size, 0, none⟩ (.int .i64 0)).setCell ⟨w.heap.size, 1, none⟩ (.int .i64 0)).setCell ⟨w.heap.size, 2, none⟩ (.int .i64 0)).setCell ⟨w.heap.size, 3, none⟩ (.int .i64 0)).setCell ⟨w.heap.size, 4, none⟩ (.bool false) = w1.setCells w.heap.size 0 [.int .i64 0, .int .i64 0, .int .i64 0, .int .i64 0, .bool false] from rfl]
    generalize w1.setCells w.heap.size 0 [.int .i64 0, .int .i64 0, .int .i64 0, .int .i64 0, .bool false] = wz at *
    clear e0 e1 e2 e3 e4 f0 f1 f2 f3 f4 kz cE cS cR B1 HA1 s0 HA0
    have cE := cEz
    have cS := cSz
    have cR := cRz
    have B1 := Bz
    have HA1 := HAz
    have s0 := sz
    clear cEz cSz cRz Bz HAz sz
    have w1s := wz
    clear w1s
    have e0 := cE.cell 0 _ rfl
    have e1 := cE.cell 1 _ rfl
    have e2 := cE.cell 2 _ rfl
    have e3 := cE.cell 3 _ rfl
    have e4 := cE.cell 4 _ rfl
    have y0 := cS.cell 0 _ rfl
    have y1 := cS.cell 1 _ rfl
    have HPS := hide (implPlaySteps_any (⟨0, 0, 0, 0, false⟩ : Ev) (by show (-9223372036854775808 : Int) ≤ 0; omega) (by show (0 : Int) ≤ 9223372036854775807; omega) fa fc bs da dc dk wz (unhide HA1) (unhide HM).1 (unhide HM).2)
    go_wp2_with fail
    refine (unhide HPS).mono ?_
    rintro e w2 ⟨v1, rfl, r2, b2⟩
    have HL9 := hide (show (evS bs dk (⟨0, 0, 0, 0, false⟩ : Ev)).length ≤ 1048576 from by have := ev_len bs dk (⟨0, 0, 0, 0, false⟩ : Ev); omega)
    have HIM := hide (fun (sa : Option Addr) (sc : Nat) (w' : World) (h : SAt w' fa bs da dk) (hL : SsAt w' sa (evS bs dk (⟨0, 0, 0, 0, false⟩ : Ev))) => implTo_any fa fc bs da dc dk sa sc (evS bs dk (⟨0, 0, 0, 0, false⟩ : Ev)) ((⟨0, 0, 0, 0, false⟩ : Ev)).c (by show (-9223372036854775808 : Int) ≤ 0; omega) (by show (0 : Int) ≤ 9223372036854775807; omega) ((⟨0, 0, 0, 0, false⟩ : Ev)).t w' h hL (unhide HM).1 (unhide HM).2 (unhide HL9))
    have HOF := hide (fun (w' : World) (e : Ending) (w'' : World) (h : TpPost w' bs dk (evS bs dk (⟨0, 0, 0, 0, false⟩ : Ev)) ((⟨0, 0, 0, 0, false⟩ : Ev)).c ((⟨0, 0, 0, 0, false⟩ : Ev)).t e w'') => InT.of h)
    have HTK := hide (ev_tkS bs dk (⟨0, 0, 0, 0, false⟩ : Ev) (by show (0 : Int) ≤ 0; omega))
    rw [unhide HTK] at HOF
    have HQ := hide (fun (w' : World) (lo hi : Nat) (X Y : Value) (h : InT w' lo hi X Y (stB bs dk) (toB bs (evS bs dk (⟨0, 0, 0, 0, false⟩ : Ev)) ((⟨0, 0, 0, 0, false⟩ : Ev)).c ((⟨0, 0, 0, 0, false⟩ : Ev)).t) (toK dk (evS bs dk (⟨0, 0, 0, 0, false⟩ : Ev)) ((⟨0, 0, 0, 0, false⟩ : Ev)).c ((⟨0, 0, 0, 0, false⟩ : Ev)).t)) => InT.congr h rfl (fun q => by have := doP_of bs dk x h4 q; rw [unhide HXC] at this; exact this))
    have HBG := hide (bgL_of bs dk x h4)
    rw [unhide HXC] at HBG
    clear HTK
    generalize evS bs dk (⟨0, 0, 0, 0, false⟩ : Ev) = L at *
    obtain ⟨sa, sc, rfl, hss, hap⟩ := stepsArg r2
    have q2 := b2.size
    have cE2 := cE.below b2 (by omega)
    have cS2 := cS.below b2 (by omega)
    have cR2 := cR.below b2 (by omega)
    have B2 := B1.trans (b2.mono B1.size)
    have HA2 := hide ((unhide HA1).below b2)
    clear e0 e1 e2 e3 e4 y0 y1 cE cS cR B1 HA1 b2 HPS hap
    have e3 := cE2.cell 3 _ rfl
    have e4 := cE2.cell 4 _ rfl
    have y0 := cS2.cell 0 _ rfl
    have y1 := cS2.cell 1 _ rfl
    go_wp2_with fail
    refine (unhide HIM _ _ _ (unhide HA2) hss).mono ?_
    intro e w3 hT
    obtain ⟨X, Y, rfl, I3, b3⟩ := unhide HOF _ _ _ hT
    clear hT
    replace I3 := unhide HQ _ _ _ _ _ I3
    obtain ⟨f1, n1, c1, f2, n2, c2, rfl, rfl⟩ := I3.form
    have q3 := b3.size
    have r3 := r2.below b3 (Nat.le_refl _)
    have cE3 := cE2.below b3 (by omega)
    have cR3 := cR2.below b3 (by omega)
    have B3 := B2.trans (b3.mono B2.size)
    clear e3 e4 y0 y1 cE2 cS2 cR2 B2 r2 b3 HIM HOF HQ hss HA2
    have bN : Below w3.heap.size w3 (w3.alloc (.cells #[.slice f1 n1 c1, .slice f2 n2 c2] 26)) := (Below.refl _ _).alloc (Nat.le_refl _) _
    have cT := store_box w3 (.slice f1 n1 c1) (.slice f2 n2 c2)
    have sT : w3.heap.size + 1 ≤ (w3.alloc (.cells #[.slice f1 n1 c1, .slice f2 n2 c2] 26)).heap.size := by simp
    have I6 := hide (I3.below bN)
    have q6 := bN.size
    have r6 := r3.below bN (Nat.le_refl _)
    have cE6 := cE3.below bN (by omega)
    have cR := cR3.below bN (by omega)
    have B6 := B3.trans (bN.mono B3.size)
    clear r3 cE3 cR3 B3 bN I3
    go_upto_region 7 with fail
    generalize w3.alloc (.cells #[.slice f1 n1 c1, .slice f2 n2 c2] 26) = w6 at *
    generalize w3.heap.size = TB at *
    refine wp_region_noPanic ?_
    refine wp_region_held_drew (S := fun w' => Kept [w.heap.size + 1 + 1] w6 w') (by kernel_rfl) (Kept.refl _ _).drew (fun hHeld => ?_)
    replace cR := OrdL.ckept cR (L := []) (Kept.refl [] w6).drew (CsAt.lt cR (by first | (simp; done) | assumption)) (by simp)
    generalize w6.drew = y0 at *
    have z0 := hHeld.size
    refine takeL 0 (.agg #[.slice f1 n1 c1, .slice f2 n2 c2]) rfl (by kernel_rfl) (by kernel_rfl) (by kernel_rfl) (fun _ _ _ h => h) (yieldsIf_load_mid rfl 26 _ rfl TB 0 rfl [.slice f1 n1 c1, .slice f2 n2 c2] _ (fun _ h => (csAt_kept cT h (by omega) (by simp; omega)).cells) Tryz.underlying26 rfl (unhide HSS)) hHeld ?_
    try simp only [Act.put, List.setIfInBounds_toArray, List.set_cons_zero, List.set_cons_succ]
    refine takeL 1 (.agg #[.int .i64 0, .int .i64 0, .int .i64 0, .int .i64 0, .bool false]) rfl (by kernel_rfl) (by kernel_rfl) (by kernel_rfl) (fun _ _ _ h => h) (yieldsIf_load_mid rfl 62 _ rfl w.heap.size 0 rfl [.int .i64 0, .int .i64 0, .int .i64 0, .int .i64 0, .bool false] _ (fun _ h => (csAt_kept cE6 h (by omega) (by simp; omega)).cells) Tryz.underlying62 rfl (unhide HSE)) hHeld ?_
    try simp only [Act.put, List.setIfInBounds_toArray, List.set_cons_zero, List.set_cons_succ]
    refine takeL 2 (.slice sa L.length sc) rfl (by kernel_rfl) (by kernel_rfl) (by kernel_rfl) (fun _ _ _ h => h) (Or.inl ⟨rfl, fun _ _ => rfl⟩) hHeld ?_
    try simp only [Act.put, List.setIfInBounds_toArray, List.set_cons_zero, List.set_cons_succ]
    refine oneL 3 rfl (by kernel_rfl) rfl (fun K hK => ?_)
    go_simp
    refine (begun_any _ _ _ _ _ (by show (0 : Int) ≤ 0; omega) (by show (0 : Int) ≤ 9223372036854775807; omega) _ _ _ _ (Sts.kept r6 hHeld (fun z hz => by simp at hz; omega)) (unhide HL9)).mono ?_
    rintro e y1 ⟨v2, rfl, r8, b⟩
    go_wp2_with fail
    replace cR := CsAt.below cR b (CsAt.lt cR (by simp))
    refine hK.out _ _ (hHeld.trans (Kept.of b)) (fun hHeld => ?_)
    clear hK K
    try simp only [Act.put, List.setIfInBounds_toArray, List.set_cons_zero, List.set_cons_succ]
    have z1 := b.size
    clear b
    refine oneL 4 rfl (by kernel_rfl) rfl (fun K hK => ?_)
    have pcR := cR.put [.slice f1 n1 c1, .slice f2 n2 c2] rfl
    have kz := OrdL.kcells y1 (w.heap.size + 1 + 1) 0 [.slice f1 n1 c1, .slice f2 n2 c2]
    refine wp_store_mid 26 _ _ rfl (w.heap.size + 1 + 1) 0 [.slice f1 n1 c1, .slice f2 n2 c2].toArray rfl rfl cR.free (unhide HSS) (by kernel_rfl) ?_
    refine hK.out _ _ (hHeld.then kz (fun y hy => by simp at hy; subst hy; first | (left; simp; done) | (right; omega))) (fun hHeld => ?_)
    clear hK K
    try simp only [Act.put, List.setIfInBounds_toArray, List.set_cons_zero, List.set_cons_succ]
    replace r8 := Sts.kept r8 kz (fun z hz => by simp at hz; omega)
    clear cR kz
    generalize y1.setCells (w.heap.size + 1 + 1) 0 [.slice f1 n1 c1, .slice f2 n2 c2] = y2 at *
    have cR := pcR
    clear pcR
    refine takeL 5 (v2) rfl (by kernel_rfl) (by kernel_rfl) (by kernel_rfl) (fun _ _ _ h => h) (Or.inl ⟨rfl, fun _ _ => rfl⟩) hHeld ?_
    try simp only [Act.put, List.setIfInBounds_toArray, List.set_cons_zero, List.set_cons_succ]
    refine wpAnyH_done (by kernel_rfl) ?_ _
    refine NoPanic.normal ?_
    have IZ := InT.mono (lo' := w.heap.size) (hi' := y2.heap.size) ((unhide I6).only (OnlyG.kept hHeld) (fun z hz => .inl (by simp at hz; omega))) (by omega) (by have := hHeld.size; omega)
    have VZ := r8.mono (lo' := w.heap.size) (by omega)
    rw [unhide HBG] at VZ
    have BZ := B6.trans (Kept.below hHeld (B := w.heap.size) (by simp; omega) (by omega))
    have HP : Hid (HpPost w bs dk x (.returned (.tuple #[.agg #[.slice f1 n1 c1, .slice f2 n2 c2], v2])) y2) := ⟨_, _, _, rfl, IZ, VZ, BZ⟩
    clear IZ VZ BZ I6 r8 hHeld
    go_wp2
    exact bodyPost_ret (res_cell_tmp Tryz.results134 _ _ (w.heap.size + 1 + 1) [.slice f1 n1 c1, .slice f2 n2 c2] _ rfl cR.cells Tryz.underlying26 rfl (by kernel_rfl)) rfl (unhide HP)
  · have HXC : Hid (xC x = x) := if_neg hc
    have hc0 : 0 ≤ x.c := by omega
    clear HA0
    go_upto_region 5 with fail
    clear e0 e3
    have e0 := cE.cell 0 _ rfl
    have e1 := cE.cell 1 _ rfl
    have e2 := cE.cell 2 _ rfl
    have e3 := cE.cell 3 _ rfl
    have e4 := cE.cell 4 _ rfl
    have y0 := cS.cell 0 _ rfl
    have y1 := cS.cell 1 _ rfl
    have HPS := hide (implPlaySteps_any x hx.1.1 hx.1.2 fa fc bs da dc dk w1 (unhide HA1) (unhide HM).1 (unhide HM).2)
    go_wp2_with fail
    refine (unhide HPS).mono ?_
    rintro e w2 ⟨v1, rfl, r2, b2⟩
    have HL9 := hide (show (evS bs dk x).length ≤ 1048576 from by have := ev_len bs dk x; omega)
    have HIM := hide (fun (sa : Option Addr) (sc : Nat) (w' : World) (h : SAt w' fa bs da dk) (hL : SsAt w' sa (evS bs dk x)) => implTo_any fa fc bs da dc dk sa sc (evS bs dk x) (x).c hx.2.1 hx.2.2 (x).t w' h hL (unhide HM).1 (unhide HM).2 (unhide HL9))
    have HOF := hide (fun (w' : World) (e : Ending) (w'' : World) (h : TpPost w' bs dk (evS bs dk x) (x).c (x).t e w'') => InT.of h)
    have HTK := hide (ev_tkS bs dk x hc0)
    rw [unhide HTK] at HOF
    have HQ := hide (fun (w' : World) (lo hi : Nat) (X Y : Value) (h : InT w' lo hi X Y (stB bs dk) (toB bs (evS bs dk x) (x).c (x).t) (toK dk (evS bs dk x) (x).c (x).t)) => InT.congr h rfl (fun q => by have := doP_of bs dk x h4 q; rw [unhide HXC] at this; exact this))
    have HBG := hide (bgL_of bs dk x h4)
    rw [unhide HXC] at HBG
    clear HTK
    generalize evS bs dk x = L at *
    obtain ⟨sa, sc, rfl, hss, hap⟩ := stepsArg r2
    have q2 := b2.size
    have cE2 := cE.below b2 (by omega)
    have cS2 := cS.below b2 (by omega)
    have cR2 := cR.below b2 (by omega)
    have B2 := B1.trans (b2.mono B1.size)
    have HA2 := hide ((unhide HA1).below b2)
    clear e0 e1 e2 e3 e4 y0 y1 cE cS cR B1 HA1 b2 HPS hap
    have e3 := cE2.cell 3 _ rfl
    have e4 := cE2.cell 4 _ rfl
    have y0 := cS2.cell 0 _ rfl
    have y1 := cS2.cell 1 _ rfl
    go_wp2_with fail
    refine (unhide HIM _ _ _ (unhide HA2) hss).mono ?_
    intro e w3 hT
    obtain ⟨X, Y, rfl, I3, b3⟩ := unhide HOF _ _ _ hT
    clear hT
    replace I3 := unhide HQ _ _ _ _ _ I3
    obtain ⟨f1, n1, c1, f2, n2, c2, rfl, rfl⟩ := I3.form
    have q3 := b3.size
    have r3 := r2.below b3 (Nat.le_refl _)
    have cE3 := cE2.below b3 (by omega)
    have cR3 := cR2.below b3 (by omega)
    have B3 := B2.trans (b3.mono B2.size)
    clear e3 e4 y0 y1 cE2 cS2 cR2 B2 r2 b3 HIM HOF HQ hss HA2
    have bN : Below w3.heap.size w3 (w3.alloc (.cells #[.slice f1 n1 c1, .slice f2 n2 c2] 26)) := (Below.refl _ _).alloc (Nat.le_refl _) _
    have cT := store_box w3 (.slice f1 n1 c1) (.slice f2 n2 c2)
    have sT : w3.heap.size + 1 ≤ (w3.alloc (.cells #[.slice f1 n1 c1, .slice f2 n2 c2] 26)).heap.size := by simp
    have I6 := hide (I3.below bN)
    have q6 := bN.size
    have r6 := r3.below bN (Nat.le_refl _)
    have cE6 := cE3.below bN (by omega)
    have cR := cR3.below bN (by omega)
    have B6 := B3.trans (bN.mono B3.size)
    clear r3 cE3 cR3 B3 bN I3
    go_upto_region 7 with fail
    generalize w3.alloc (.cells #[.slice f1 n1 c1, .slice f2 n2 c2] 26) = w6 at *
    generalize w3.heap.size = TB at *
    refine wp_region_noPanic ?_
    refine wp_region_held_drew (S := fun w' => Kept [w.heap.size + 1 + 1] w6 w') (by kernel_rfl) (Kept.refl _ _).drew (fun hHeld => ?_)
    replace cR := OrdL.ckept cR (L := []) (Kept.refl [] w6).drew (CsAt.lt cR (by first | (simp; done) | assumption)) (by simp)
    generalize w6.drew = y0 at *
    have z0 := hHeld.size
    refine takeL 0 (.agg #[.slice f1 n1 c1, .slice f2 n2 c2]) rfl (by kernel_rfl) (by kernel_rfl) (by kernel_rfl) (fun _ _ _ h => h) (yieldsIf_load_mid rfl 26 _ rfl TB 0 rfl [.slice f1 n1 c1, .slice f2 n2 c2] _ (fun _ h => (csAt_kept cT h (by omega) (by simp; omega)).cells) Tryz.underlying26 rfl (unhide HSS)) hHeld ?_
    try simp only [Act.put, List.setIfInBounds_toArray, List.set_cons_zero, List.set_cons_succ]
    refine takeL 1 (.agg #[.int .i64 x.k, .int .i64 x.a, .int .i64 x.b, .int .i64 x.c, .bool x.t]) rfl (by kernel_rfl) (by kernel_rfl) (by kernel_rfl) (fun _ _ _ h => h) (yieldsIf_load_mid rfl 62 _ rfl w.heap.size 0 rfl [.int .i64 x.k, .int .i64 x.a, .int .i64 x.b, .int .i64 x.c, .bool x.t] _ (fun _ h => (csAt_kept cE6 h (by omega) (by simp; omega)).cells) Tryz.underlying62 rfl (unhide HSE)) hHeld ?_
    try simp only [Act.put, List.setIfInBounds_toArray, List.set_cons_zero, List.set_cons_succ]
    refine takeL 2 (.slice sa L.length sc) rfl (by kernel_rfl) (by kernel_rfl) (by kernel_rfl) (fun _ _ _ h => h) (Or.inl ⟨rfl, fun _ _ => rfl⟩) hHeld ?_
    try simp only [Act.put, List.setIfInBounds_toArray, List.set_cons_zero, List.set_cons_succ]
    refine oneL 3 rfl (by kernel_rfl) rfl (fun K hK => ?_)
    go_simp
    refine (begun_any _ _ _ _ _ hc0 hx.2.2 _ _ _ _ (Sts.kept r6 hHeld (fun z hz => by simp at hz; omega)) (unhide HL9)).mono ?_
    rintro e y1 ⟨v2, rfl, r8, b⟩
    go_wp2_with fail
    replace cR := CsAt.below cR b (CsAt.lt cR (by simp))
    refine hK.out _ _ (hHeld.trans (Kept.of b)) (fun hHeld => ?_)
    clear hK K
    try simp only [Act.put, List.setIfInBounds_toArray, List.set_cons_zero, List.set_cons_succ]
    have z1 := b.size
    clear b
    refine oneL 4 rfl (by kernel_rfl) rfl (fun K hK => ?_)
    have pcR := cR.put [.slice f1 n1 c1, .slice f2 n2 c2] rfl
    have kz := OrdL.kcells y1 (w.heap.size + 1 + 1) 0 [.slice f1 n1 c1, .slice f2 n2 c2]
    refine wp_store_mid 26 _ _ rfl (w.heap.size + 1 + 1) 0 [.slice f1 n1 c1, .slice f2 n2 c2].toArray rfl rfl cR.free (unhide HSS) (by kernel_rfl) ?_
    refine hK.out _ _ (hHeld.then kz (fun y hy => by simp at hy; subst hy; first | (left; simp; done) | (right; omega))) (fun hHeld => ?_)
    clear hK K
    try simp only [Act.put, List.setIfInBounds_toArray, List.set_cons_zero, List.set_cons_succ]
    replace r8 := Sts.kept r8 kz (fun z hz => by simp at hz; omega)
    clear cR kz
    generalize y1.setCells (w.heap.size + 1 + 1) 0 [.slice f1 n1 c1, .slice f2 n2 c2] = y2 at *
    have cR := pcR
    clear pcR
    refine takeL 5 (v2) rfl (by kernel_rfl) (by kernel_rfl) (by kernel_rfl) (fun _ _ _ h => h) (Or.inl ⟨rfl, fun _ _ => rfl⟩) hHeld ?_
    try simp only [Act.put, List.setIfInBounds_toArray, List.set_cons_zero, List.set_cons_succ]
    refine wpAnyH_done (by kernel_rfl) ?_ _
    refine NoPanic.normal ?_
    have IZ := InT.mono (lo' := w.heap.size) (hi' := y2.heap.size) ((unhide I6).only (OnlyG.kept hHeld) (fun z hz => .inl (by simp at hz; omega))) (by omega) (by have := hHeld.size; omega)
    have VZ := r8.mono (lo' := w.heap.size) (by omega)
    rw [unhide HBG] at VZ
    have BZ := B6.trans (Kept.below hHeld (B := w.heap.size) (by simp; omega) (by omega))
    have HP : Hid (HpPost w bs dk x (.returned (.tuple #[.agg #[.slice f1 n1 c1, .slice f2 n2 c2], v2])) y2) := ⟨_, _, _, rfl, IZ, VZ, BZ⟩
    clear IZ VZ BZ I6 r8 hHeld
    go_wp2
    exact bodyPost_ret (res_cell_tmp Tryz.results134 _ _ (w.heap.size + 1 + 1) [.slice f1 n1 c1, .slice f2 n2 c2] _ rfl cR.cells Tryz.underlying26 rfl (by kernel_rfl)) rfl (unhide HP)
end Go.Proofs.YtogfelpdgeionaaGreat.PdC
