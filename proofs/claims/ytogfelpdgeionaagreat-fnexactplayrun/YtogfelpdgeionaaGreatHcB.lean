/-
  Texts that belong together, one behind the other: PdC, PdD, EvS.
-/
import Derived.Test.YtogfelpdgeionaaGreatHcA
import Derived.Test.YtogfelpdgeionaaGreatHbX
import Derived.Test.YtogfelpdgeionaaGreatHbS
import Derived.Test.YtogfelpdgeionaaGreatHbB
import Derived.Test.YtogfelpdgeionaaGreatHbJ

/-
  The program's letting something happen, and what stands there then.
-/
namespace Go.Proofs.YtogfelpdgeionaaGreat.PdC
open TwA Go.ChangeShapes Go.WideShapes Go.ChangeAt Go.RowKit Go.Shelf OkA Big Fl ImplB ImplF ImplS _root_.Go.Proofs.YtogfelpdgeionaaGreat.Own ImplT ImplU SpecA SpecB SpecC SpecD SpecW SpecF SpecG SpecH Ok2 Pl FindP ImplL Kp StA StB StC StD StE StF StG SpS SpT RmA WrA FlA DoA ToA PlA LawU LawS LawV LawI LawT LawW SpU TwB TwC QuB QuE SpV MkN Ct AlX PaA PaB DpX Cu PdA PdB EvL
set_option linter.unusedVariables false
set_option linter.unusedSimpArgs false
attribute [local go_sem ↓] Go.wp_at_zero Go.wp_at_succ

/-- The steps of an event that are begun. -/
def bgL (bs : List Bk) (dk : List Int) (x : Ev) : List Stp := if x.k = 4 then allL bs dk 6 else if x.c < 0 then [] else (evP bs dk x).take (begN x.c x.t (evP bs dk x).length)
def HpPost (w : World) (bs : List Bk) (dk : List Int) (x : Ev) (e : Ending) (w' : World) : Prop := ∃ X Y v, e = .returned (.tuple #[.agg #[X, Y], v]) ∧ InT w' w.heap.size w'.heap.size X Y (stB bs dk) (doP bs dk x).1 (doP bs dk x).2 ∧ Sts w' w.heap.size v (if stB bs dk then bgL bs dk x else []) ∧ Below w.heap.size w w'
theorem InT.congr {w : World} {lo hi : Nat} {x y : Value} {ok ok' : Bool} {B B' : List Bk} {K K' : List Int} (h : InT w lo hi x y ok B K) (ho : ok = ok') (e : ok' = true → B = B' ∧ K = K') : InT w lo hi x y ok' B' K' := by
  subst ho
  cases ok
  · rcases h with h | ⟨q, _⟩
    · exact .inl h
    · cases q
  · obtain ⟨rfl, rfl⟩ := e rfl
    exact h
/-- What the store is told to do: nothing, where it falls behind a number of steps below 0. -/
def xC (x : Ev) : Ev := if x.c < 0 then ⟨0, 0, 0, 0, false⟩ else x
theorem ev_tkS (bs : List Bk) (dk : List Int) (x : Ev) (hc : 0 ≤ x.c) : toOk bs dk (evS bs dk x) x.c = stB bs dk := by
  cases hs : stB bs dk
  · unfold toOk; rw [hs]; rfl
  · have : evS bs dk x = evP bs dk x := by unfold evS; rw [if_pos hs]
    rw [this]; exact ev_tk hs x x.c hc
theorem doP_of (bs : List Bk) (dk : List Int) (x : Ev) (h4 : ¬ x.k = 4) (hs : stB bs dk = true) : toB bs (evS bs dk (xC x)) (xC x).c (xC x).t = (doP bs dk x).1 ∧ toK dk (evS bs dk (xC x)) (xC x).c (xC x).t = (doP bs dk x).2 := by
  unfold doP xC evS
  rw [if_neg h4, if_pos hs]
  by_cases hc : x.c < 0
  · rw [if_pos hc, if_pos hc]
    exact to_nil 0 false
  · rw [if_neg hc, if_neg hc]
    exact ⟨rfl, rfl⟩
theorem bgL_of (bs : List Bk) (dk : List Int) (x : Ev) (h4 : ¬ x.k = 4) : (evS bs dk (xC x)).take (begN (xC x).c (xC x).t (evS bs dk (xC x)).length) = if stB bs dk then bgL bs dk x else [] := by
  unfold evS
  cases hs : stB bs dk
  · simp
  · rw [if_pos rfl, if_pos rfl]
    unfold bgL xC
    rw [if_neg h4]
    by_cases hc : x.c < 0
    · rw [if_pos hc, if_pos hc]; simp [evP]
    · rw [if_neg hc, if_neg hc]

set_option maxRecDepth 100000 in
set_option maxHeartbeats 4000000 in
theorem happen_i (x : Ev) (hx : EvOk x) (fa : Option Addr) (fc : Nat) (bs : List Bk) (da : Option Addr) (dc : Nat) (dk : List Int) (w : World) (h : SAt w fa bs da dk) (hm : bs.length ≤ 9223372036854775807) (hm2 : dk.length ≤ 9223372036854775807) :
    Calls Tryz.prog 134 #[.agg #[.int .i64 x.k, .int .i64 x.a, .int .i64 x.b, .int .i64 x.c, .bool x.t], .agg #[.slice fa bs.length fc, .slice da dk.length dc]] w fun e w' => HpPost w bs dk x e w' := by
  have B1 : Below w.heap.size w (((w.alloc (.cells #[.int .i64 x.k, .int .i64 x.a, .int .i64 x.b, .int .i64 x.c, .bool x.t] 62)).alloc (.cells #[.slice fa bs.length fc, .slice da dk.length dc] 26)).alloc (.cells #[.slice none 0 0, .slice none 0 0] 26)) := (((Below.refl _ _).alloc (Nat.le_refl _) _).alloc (by simp) _).alloc (by simp; omega) _
  have cE := ((CsAt.new w [.int .i64 x.k, .int .i64 x.a, .int .i64 x.b, .int .i64 x.c, .bool x.t] 62).alloc (by simp) (.cells #[.slice fa bs.length fc, .slice da dk.length dc] 26)).alloc (by simp; omega) (.cells #[.slice none 0 0, .slice none 0 0] 26)
  have cS := (store_box (w.alloc (.cells #[.int .i64 x.k, .int .i64 x.a, .int .i64 x.b, .int .i64 x.c, .bool x.t] 62)) (.slice fa bs.length fc) (.slice da dk.length dc)).alloc (by simp) (.cells #[.slice none 0 0, .slice none 0 0] 26)
  rw [World.size_alloc] at cS
  have cR := store_box ((w.alloc (.cells #[.int .i64 x.k, .int .i64 x.a, .int .i64 x.b, .int .i64 x.c, .bool x.t] 62)).alloc (.cells #[.slice fa bs.length fc, .slice da dk.length dc] 26)) (.slice none 0 0) (.slice none 0 0)
  rw [World.size_alloc, World.size_alloc] at cR
  have s0 : w.heap.size + 3 ≤ (((w.alloc (.cells #[.int .i64 x.k, .int .i64 x.a, .int .i64 x.b, .int .i64 x.c, .bool x.t] 62)).alloc (.cells #[.slice fa bs.length fc, .slice da dk.length dc] 26)).alloc (.cells #[.slice none 0 0, .slice none 0 0] 26)).heap.size := by simp
  have HA0 := hide h
  have HA1 := hide (h.below B1)
  have HM := hide (And.intro hm hm2)
  have HSS := hide (show (Tryz.prog.info? 26).map (·.size) = some 2 by kernel_rfl)
  have HSE := hide (show (Tryz.prog.info? 62).map (·.size) = some 5 by kernel_rfl)
  clear h hm hm2
  go_enter Tryz.func134, Tryz.ntmps134
  go_upto_region 1 with fail
  generalize ((w.alloc (.cells #[.int .i64 x.k, .int .i64 x.a, .int .i64 x.b, .int .i64 x.c, .bool x.t] 62)).alloc (.cells #[.slice fa bs.length fc, .slice da dk.length dc] 26)).alloc (.cells #[.slice none 0 0, .slice none 0 0] 26) = w1 at *
  by_cases h4 : x.k = 4
  · have h4b : (x.k == 4) = true := by simpa using h4
    have e0 := cE.cell 0 _ rfl
    have y0 := cS.cell 0 _ rfl
    have y1 := cS.cell 1 _ rfl
    have HFE := hide (each_any fa fc bs da dc dk w1 (unhide HA1) (unhide HM).1 (unhide HM).2)
    have HDP : Hid (doP bs dk x = allA bs dk 6) := if_pos h4
    have HDL : Hid (bgL bs dk x = allL bs dk 6) := if_pos h4
    clear h4
    go_wp2_with fail
    refine (unhide HFE).mono ?_
    rintro e w2 ⟨X, Y, v, rfl, I, hV, b2⟩
    obtain ⟨f1, n1, c1, f2, n2, c2, rfl, rfl⟩ := I.form
    have q2 := b2.size
    have cR2 := cR.below b2 (by omega)
    have B2 := B1.trans (b2.mono B1.size)
    clear e0 y0 y1 cE cS cR HFE HA1 b2 B1
    have d0 := cR2.cell 0 _ rfl
    have d1 := cR2.cell 1 _ rfl
    have f0 := cR2.frozen 0 (by simp)
    have f1' := cR2.frozen 1 (by simp)
    have p1 := cR2.put [.slice f1 n1 c1, .slice f2 n2 c2] rfl
    have kz := kept_cells w2 (w.heap.size + 1 + 1) 0 [.slice f1 n1 c1, .slice f2 n2 c2]
    have IZ := InT.mono (lo' := w.heap.size) (hi' := (w2.setCells (w.heap.size + 1 + 1) 0 [.slice f1 n1 c1, .slice f2 n2 c2]).heap.size) (I.only (OnlyG.kept kz) (fun z hz => .inl (by simp at hz; omega))) (by omega) (by rw [size_setCells]; omega)
    have VZ := (Sts.kept hV kz (fun z hz => by simp at hz; omega)).mono (lo' := w.heap.size) (by omega)
    have BZ := below_setCells (w.heap.size + 1 + 1) (by omega) [.slice f1 n1 c1, .slice f2 n2 c2] 0 _ B2
    have HP : Hid (HpPost w bs dk x (.returned (.tuple #[.agg #[.slice f1 n1 c1, .slice f2 n2 c2], v])) (w2.setCells (w.heap.size + 1 + 1) 0 [.slice f1 n1 c1, .slice f2 n2 c2])) := ⟨_, _, _, rfl, by rw [unhide HDP]; exact IZ, by rw [unhide HDL]; exact VZ, BZ⟩
    clear IZ VZ BZ I hV B2
    go_wp2
    exact bodyPost_ret (res_cell_tmp Tryz.results134 _ _ (w.heap.size + 1 + 1) [.slice f1 n1 c1, .slice f2 n2 c2] _ rfl p1.cells Tryz.underlying26 rfl (by kernel_rfl)) rfl (unhide HP)
  have h4b : (x.k == 4) = false := by simpa using h4
  have e0 := cE.cell 0 _ rfl
  have e3 := cE.cell 3 _ rfl
  by_cases hc : x.c < 0
  · have HXC : Hid (xC x = ⟨0, 0, 0, 0, false⟩) := if_pos hc
    have e1 := cE.cell 1 _ rfl
    have e2 := cE.cell 2 _ rfl
    have e4 := cE.cell 4 _ rfl
    have f0 := cE.frozen 0 (by simp)
    have f1 := cE.frozen 1 (by simp)
    have f2 := cE.frozen 2 (by simp)
    have f3 := cE.frozen 3 (by simp)
    have f4 := cE.frozen 4 (by simp)
    have kz := kept_cells w1 w.heap.size 0 [.int .i64 0, .int .i64 0, .int .i64 0, .int .i64 0, .bool false]
    have cEz := cE.put [.int .i64 0, .int .i64 0, .int .i64 0, .int .i64 0, .bool false] rfl
    have cSz := csAt_kept cS kz (by omega) (by simp)
    have cRz := csAt_kept cR kz (by omega) (by simp; omega)
    have Bz := below_setCells w.heap.size (Nat.le_refl _) [.int .i64 0, .int .i64 0, .int .i64 0, .int .i64 0, .bool false] 0 _ B1
    have HAz := hide ((unhide HA0).below Bz)
    have sz : w.heap.size + 3 ≤ (w1.setCells w.heap.size 0 [.int .i64 0, .int .i64 0, .int .i64 0, .int .i64 0, .bool false]).heap.size := by rw [size_setCells]; exact s0
    go_upto_region 5 with fail
    rw [show ((((w1.setCell ⟨w.heap.size, 0, none⟩ (.int .i64 0)).setCell ⟨w.heap.size, 1, none⟩ (.int .i64 0)).setCell ⟨w.heap.size, 2, none⟩ (.int .i64 0)).setCell ⟨w.heap.size, 3, none⟩ (.int .i64 0)).setCell ⟨w.heap.size, 4, none⟩ (.bool false) = w1.setCells w.heap.size 0 [.int .i64 0, .int .i64 0, .int .i64 0, .int .i64 0, .bool false] from rfl]
    generalize w1.setCells w.heap.size 0 [.int .i64 0, .int .i64 0, .int .i64 0, .int .i64 0, .bool false] = wz at *
    clear e0 e1 e2 e3 e4 f0 f1 f2 f3 f4 kz cE cS cR B1 HA1 s0 HA0
    have cE := cEz
    have cS := cSz
    have cR := cRz
    have B1 := Bz
    have HA1 := HAz
    have s0 := sz
    clear cEz cSz cRz Bz HAz sz
    have w1s := wz
    clear w1s
    have e0 := cE.cell 0 _ rfl
    have e1 := cE.cell 1 _ rfl
    have e2 := cE.cell 2 _ rfl
    have e3 := cE.cell 3 _ rfl
    have e4 := cE.cell 4 _ rfl
    have y0 := cS.cell 0 _ rfl
    have y1 := cS.cell 1 _ rfl
    have HPS := hide (implPlaySteps_any (⟨0, 0, 0, 0, false⟩ : Ev) (by show (-9223372036854775808 : Int) ≤ 0; omega) (by show (0 : Int) ≤ 9223372036854775807; omega) fa fc bs da dc dk wz (unhide HA1) (unhide HM).1 (unhide HM).2)
    go_wp2_with fail
    refine (unhide HPS).mono ?_
    rintro e w2 ⟨v1, rfl, r2, b2⟩
    have HL9 := hide (show (evS bs dk (⟨0, 0, 0, 0, false⟩ : Ev)).length ≤ 1048576 from by have := ev_len bs dk (⟨0, 0, 0, 0, false⟩ : Ev); omega)
    have HIM := hide (fun (sa : Option Addr) (sc : Nat) (w' : World) (h : SAt w' fa bs da dk) (hL : SsAt w' sa (evS bs dk (⟨0, 0, 0, 0, false⟩ : Ev))) => implTo_any fa fc bs da dc dk sa sc (evS bs dk (⟨0, 0, 0, 0, false⟩ : Ev)) ((⟨0, 0, 0, 0, false⟩ : Ev)).c (by show (-9223372036854775808 : Int) ≤ 0; omega) (by show (0 : Int) ≤ 9223372036854775807; omega) ((⟨0, 0, 0, 0, false⟩ : Ev)).t w' h hL (unhide HM).1 (unhide HM).2 (unhide HL9))
    have HOF := hide (fun (w' : World) (e : Ending) (w'' : World) (h : TpPost w' bs dk (evS bs dk (⟨0, 0, 0, 0, false⟩ : Ev)) ((⟨0, 0, 0, 0, false⟩ : Ev)).c ((⟨0, 0, 0, 0, false⟩ : Ev)).t e w'') => InT.of h)
    have HTK := hide (ev_tkS bs dk (⟨0, 0, 0, 0, false⟩ : Ev) (by show (0 : Int) ≤ 0; omega))
    rw [unhide HTK] at HOF
    have HQ := hide (fun (w' : World) (lo hi : Nat) (X Y : Value) (h : InT w' lo hi X Y (stB bs dk) (toB bs (evS bs dk (⟨0, 0, 0, 0, false⟩ : Ev)) ((⟨0, 0, 0, 0, false⟩ : Ev)).c ((⟨0, 0, 0, 0, false⟩ : Ev)).t) (toK dk (evS bs dk (⟨0, 0, 0, 0, false⟩ : Ev)) ((⟨0, 0, 0, 0, false⟩ : Ev)).c ((⟨0, 0, 0, 0, false⟩ : Ev)).t)) => InT.congr h rfl (fun q => by have := doP_of bs dk x h4 q; rw [unhide HXC] at this; exact this))
    have HBG := hide (bgL_of bs dk x h4)
    rw [unhide HXC] at HBG
    clear HTK
    generalize evS bs dk (⟨0, 0, 0, 0, false⟩ : Ev) = L at *
    obtain ⟨sa, sc, rfl, hss, hap⟩ := stepsArg r2
    have q2 := b2.size
    have cE2 := cE.below b2 (by omega)
    have cS2 := cS.below b2 (by omega)
    have cR2 := cR.below b2 (by omega)
    have B2 := B1.trans (b2.mono B1.size)
    have HA2 := hide ((unhide HA1).below b2)
    clear e0 e1 e2 e3 e4 y0 y1 cE cS cR B1 HA1 b2 HPS hap
    have e3 := cE2.cell 3 _ rfl
    have e4 := cE2.cell 4 _ rfl
    have y0 := cS2.cell 0 _ rfl
    have y1 := cS2.cell 1 _ rfl
    go_wp2_with fail
    refine (unhide HIM _ _ _ (unhide HA2) hss).mono ?_
    intro e w3 hT
    obtain ⟨X, Y, rfl, I3, b3⟩ := unhide HOF _ _ _ hT
    clear hT
    replace I3 := unhide HQ _ _ _ _ _ I3
    obtain ⟨f1, n1, c1, f2, n2, c2, rfl, rfl⟩ := I3.form
    have q3 := b3.size
    have r3 := r2.below b3 (Nat.le_refl _)
    have cE3 := cE2.below b3 (by omega)
    have cR3 := cR2.below b3 (by omega)
    have B3 := B2.trans (b3.mono B2.size)
    clear e3 e4 y0 y1 cE2 cS2 cR2 B2 r2 b3 HIM HOF HQ hss HA2
    have bN : Below w3.heap.size w3 (w3.alloc (.cells #[.slice f1 n1 c1, .slice f2 n2 c2] 26)) := (Below.refl _ _).alloc (Nat.le_refl _) _
    have cT := store_box w3 (.slice f1 n1 c1) (.slice f2 n2 c2)
    have sT : w3.heap.size + 1 ≤ (w3.alloc (.cells #[.slice f1 n1 c1, .slice f2 n2 c2] 26)).heap.size := by simp
    have I6 := hide (I3.below bN)
    have q6 := bN.size
    have r6 := r3.below bN (Nat.le_refl _)
    have cE6 := cE3.below bN (by omega)
    have cR := cR3.below bN (by omega)
    have B6 := B3.trans (bN.mono B3.size)
    clear r3 cE3 cR3 B3 bN I3
    go_upto_region 7 with fail
    generalize w3.alloc (.cells #[.slice f1 n1 c1, .slice f2 n2 c2] 26) = w6 at *
    generalize w3.heap.size = TB at *
    refine wp_region_noPanic ?_
    refine wp_region_held_drew (S := fun w' => Kept [w.heap.size + 1 + 1] w6 w') (by kernel_rfl) (Kept.refl _ _).drew (fun hHeld => ?_)
    replace cR := OrdL.ckept cR (L := []) (Kept.refl [] w6).drew (CsAt.lt cR (by first | (simp; done) | assumption)) (by simp)
    generalize w6.drew = y0 at *
    have z0 := hHeld.size
    refine takeL 0 (.agg #[.slice f1 n1 c1, .slice f2 n2 c2]) rfl (by kernel_rfl) (by kernel_rfl) (by kernel_rfl) (fun _ _ _ h => h) (yieldsIf_load_mid rfl 26 _ rfl TB 0 rfl [.slice f1 n1 c1, .slice f2 n2 c2] _ (fun _ h => (csAt_kept cT h (by omega) (by simp; omega)).cells) Tryz.underlying26 rfl (unhide HSS)) hHeld ?_
    try simp only [Act.put, List.setIfInBounds_toArray, List.set_cons_zero, List.set_cons_succ]
    refine takeL 1 (.agg #[.int .i64 0, .int .i64 0, .int .i64 0, .int .i64 0, .bool false]) rfl (by kernel_rfl) (by kernel_rfl) (by kernel_rfl) (fun _ _ _ h => h) (yieldsIf_load_mid rfl 62 _ rfl w.heap.size 0 rfl [.int .i64 0, .int .i64 0, .int .i64 0, .int .i64 0, .bool false] _ (fun _ h => (csAt_kept cE6 h (by omega) (by simp; omega)).cells) Tryz.underlying62 rfl (unhide HSE)) hHeld ?_
    try simp only [Act.put, List.setIfInBounds_toArray, List.set_cons_zero, List.set_cons_succ]
    refine takeL 2 (.slice sa L.length sc) rfl (by kernel_rfl) (by kernel_rfl) (by kernel_rfl) (fun _ _ _ h => h) (Or.inl ⟨rfl, fun _ _ => rfl⟩) hHeld ?_
    try simp only [Act.put, List.setIfInBounds_toArray, List.set_cons_zero, List.set_cons_succ]
    refine oneL 3 rfl (by kernel_rfl) rfl (fun K hK => ?_)
    go_simp
    refine (begun_any _ _ _ _ _ (by show (0 : Int) ≤ 0; omega) (by show (0 : Int) ≤ 9223372036854775807; omega) _ _ _ _ (Sts.kept r6 hHeld (fun z hz => by simp at hz; omega)) (unhide HL9)).mono ?_
    rintro e y1 ⟨v2, rfl, r8, b⟩
    go_wp2_with fail
    replace cR := CsAt.below cR b (CsAt.lt cR (by simp))
    refine hK.out _ _ (hHeld.trans (Kept.of b)) (fun hHeld => ?_)
    clear hK K
    try simp only [Act.put, List.setIfInBounds_toArray, List.set_cons_zero, List.set_cons_succ]
    have z1 := b.size
    clear b
    refine oneL 4 rfl (by kernel_rfl) rfl (fun K hK => ?_)
    have pcR := cR.put [.slice f1 n1 c1, .slice f2 n2 c2] rfl
    have kz := OrdL.kcells y1 (w.heap.size + 1 + 1) 0 [.slice f1 n1 c1, .slice f2 n2 c2]
    refine wp_store_mid 26 _ _ rfl (w.heap.size + 1 + 1) 0 [.slice f1 n1 c1, .slice f2 n2 c2].toArray rfl rfl cR.free (unhide HSS) (by kernel_rfl) ?_
    refine hK.out _ _ (hHeld.then kz (fun y hy => by simp at hy; subst hy; first | (left; simp; done) | (right; omega))) (fun hHeld => ?_)
    clear hK K
    try simp only [Act.put, List.setIfInBounds_toArray, List.set_cons_zero, List.set_cons_succ]
    replace r8 := Sts.kept r8 kz (fun z hz => by simp at hz; omega)
    clear cR kz
    generalize y1.setCells (w.heap.size + 1 + 1) 0 [.slice f1 n1 c1, .slice f2 n2 c2] = y2 at *
    have cR := pcR
    clear pcR
    refine takeL 5 (v2) rfl (by kernel_rfl) (by kernel_rfl) (by kernel_rfl) (fun _ _ _ h => h) (Or.inl ⟨rfl, fun _ _ => rfl⟩) hHeld ?_
    try simp only [Act.put, List.setIfInBounds_toArray, List.set_cons_zero, List.set_cons_succ]
    refine wpAnyH_done (by kernel_rfl) ?_ _
    refine NoPanic.normal ?_
    have IZ := InT.mono (lo' := w.heap.size) (hi' := y2.heap.size) ((unhide I6).only (OnlyG.kept hHeld) (fun z hz => .inl (by simp at hz; omega))) (by omega) (by have := hHeld.size; omega)
    have VZ := r8.mono (lo' := w.heap.size) (by omega)
    rw [unhide HBG] at VZ
    have BZ := B6.trans (Kept.below hHeld (B := w.heap.size) (by simp; omega) (by omega))
    have HP : Hid (HpPost w bs dk x (.returned (.tuple #[.agg #[.slice f1 n1 c1, .slice f2 n2 c2], v2])) y2) := ⟨_, _, _, rfl, IZ, VZ, BZ⟩
    clear IZ VZ BZ I6 r8 hHeld
    go_wp2
    exact bodyPost_ret (res_cell_tmp Tryz.results134 _ _ (w.heap.size + 1 + 1) [.slice f1 n1 c1, .slice f2 n2 c2] _ rfl cR.cells Tryz.underlying26 rfl (by kernel_rfl)) rfl (unhide HP)
  · have HXC : Hid (xC x = x) := if_neg hc
    have hc0 : 0 ≤ x.c := by omega
    clear HA0
    go_upto_region 5 with fail
    clear e0 e3
    have e0 := cE.cell 0 _ rfl
    have e1 := cE.cell 1 _ rfl
    have e2 := cE.cell 2 _ rfl
    have e3 := cE.cell 3 _ rfl
    have e4 := cE.cell 4 _ rfl
    have y0 := cS.cell 0 _ rfl
    have y1 := cS.cell 1 _ rfl
    have HPS := hide (implPlaySteps_any x hx.1.1 hx.1.2 fa fc bs da dc dk w1 (unhide HA1) (unhide HM).1 (unhide HM).2)
    go_wp2_with fail
    refine (unhide HPS).mono ?_
    rintro e w2 ⟨v1, rfl, r2, b2⟩
    have HL9 := hide (show (evS bs dk x).length ≤ 1048576 from by have := ev_len bs dk x; omega)
    have HIM := hide (fun (sa : Option Addr) (sc : Nat) (w' : World) (h : SAt w' fa bs da dk) (hL : SsAt w' sa (evS bs dk x)) => implTo_any fa fc bs da dc dk sa sc (evS bs dk x) (x).c hx.2.1 hx.2.2 (x).t w' h hL (unhide HM).1 (unhide HM).2 (unhide HL9))
    have HOF := hide (fun (w' : World) (e : Ending) (w'' : World) (h : TpPost w' bs dk (evS bs dk x) (x).c (x).t e w'') => InT.of h)
    have HTK := hide (ev_tkS bs dk x hc0)
    rw [unhide HTK] at HOF
    have HQ := hide (fun (w' : World) (lo hi : Nat) (X Y : Value) (h : InT w' lo hi X Y (stB bs dk) (toB bs (evS bs dk x) (x).c (x).t) (toK dk (evS bs dk x) (x).c (x).t)) => InT.congr h rfl (fun q => by have := doP_of bs dk x h4 q; rw [unhide HXC] at this; exact this))
    have HBG := hide (bgL_of bs dk x h4)
    rw [unhide HXC] at HBG
    clear HTK
    generalize evS bs dk x = L at *
    obtain ⟨sa, sc, rfl, hss, hap⟩ := stepsArg r2
    have q2 := b2.size
    have cE2 := cE.below b2 (by omega)
    have cS2 := cS.below b2 (by omega)
    have cR2 := cR.below b2 (by omega)
    have B2 := B1.trans (b2.mono B1.size)
    have HA2 := hide ((unhide HA1).below b2)
    clear e0 e1 e2 e3 e4 y0 y1 cE cS cR B1 HA1 b2 HPS hap
    have e3 := cE2.cell 3 _ rfl
    have e4 := cE2.cell 4 _ rfl
    have y0 := cS2.cell 0 _ rfl
    have y1 := cS2.cell 1 _ rfl
    go_wp2_with fail
    refine (unhide HIM _ _ _ (unhide HA2) hss).mono ?_
    intro e w3 hT
    obtain ⟨X, Y, rfl, I3, b3⟩ := unhide HOF _ _ _ hT
    clear hT
    replace I3 := unhide HQ _ _ _ _ _ I3
    obtain ⟨f1, n1, c1, f2, n2, c2, rfl, rfl⟩ := I3.form
    have q3 := b3.size
    have r3 := r2.below b3 (Nat.le_refl _)
    have cE3 := cE2.below b3 (by omega)
    have cR3 := cR2.below b3 (by omega)
    have B3 := B2.trans (b3.mono B2.size)
    clear e3 e4 y0 y1 cE2 cS2 cR2 B2 r2 b3 HIM HOF HQ hss HA2
    have bN : Below w3.heap.size w3 (w3.alloc (.cells #[.slice f1 n1 c1, .slice f2 n2 c2] 26)) := (Below.refl _ _).alloc (Nat.le_refl _) _
    have cT := store_box w3 (.slice f1 n1 c1) (.slice f2 n2 c2)
    have sT : w3.heap.size + 1 ≤ (w3.alloc (.cells #[.slice f1 n1 c1, .slice f2 n2 c2] 26)).heap.size := by simp
    have I6 := hide (I3.below bN)
    have q6 := bN.size
    have r6 := r3.below bN (Nat.le_refl _)
    have cE6 := cE3.below bN (by omega)
    have cR := cR3.below bN (by omega)
    have B6 := B3.trans (bN.mono B3.size)
    clear r3 cE3 cR3 B3 bN I3
    go_upto_region 7 with fail
    generalize w3.alloc (.cells #[.slice f1 n1 c1, .slice f2 n2 c2] 26) = w6 at *
    generalize w3.heap.size = TB at *
    refine wp_region_noPanic ?_
    refine wp_region_held_drew (S := fun w' => Kept [w.heap.size + 1 + 1] w6 w') (by kernel_rfl) (Kept.refl _ _).drew (fun hHeld => ?_)
    replace cR := OrdL.ckept cR (L := []) (Kept.refl [] w6).drew (CsAt.lt cR (by first | (simp; done) | assumption)) (by simp)
    generalize w6.drew = y0 at *
    have z0 := hHeld.size
    refine takeL 0 (.agg #[.slice f1 n1 c1, .slice f2 n2 c2]) rfl (by kernel_rfl) (by kernel_rfl) (by kernel_rfl) (fun _ _ _ h => h) (yieldsIf_load_mid rfl 26 _ rfl TB 0 rfl [.slice f1 n1 c1, .slice f2 n2 c2] _ (fun _ h => (csAt_kept cT h (by omega) (by simp; omega)).cells) Tryz.underlying26 rfl (unhide HSS)) hHeld ?_
    try simp only [Act.put, List.setIfInBounds_toArray, List.set_cons_zero, List.set_cons_succ]
    refine takeL 1 (.agg #[.int .i64 x.k, .int .i64 x.a, .int .i64 x.b, .int .i64 x.c, .bool x.t]) rfl (by kernel_rfl) (by kernel_rfl) (by kernel_rfl) (fun _ _ _ h => h) (yieldsIf_load_mid rfl 62 _ rfl w.heap.size 0 rfl [.int .i64 x.k, .int .i64 x.a, .int .i64 x.b, .int .i64 x.c, .bool x.t] _ (fun _ h => (csAt_kept cE6 h (by omega) (by simp; omega)).cells) Tryz.underlying62 rfl (unhide HSE)) hHeld ?_
    try simp only [Act.put, List.setIfInBounds_toArray, List.set_cons_zero, List.set_cons_succ]
    refine takeL 2 (.slice sa L.length sc) rfl (by kernel_rfl) (by kernel_rfl) (by kernel_rfl) (fun _ _ _ h => h) (Or.inl ⟨rfl, fun _ _ => rfl⟩) hHeld ?_
    try simp only [Act.put, List.setIfInBounds_toArray, List.set_cons_zero, List.set_cons_succ]
    refine oneL 3 rfl (by kernel_rfl) rfl (fun K hK => ?_)
    go_simp
    refine (begun_any _ _ _ _ _ hc0 hx.2.2 _ _ _ _ (Sts.kept r6 hHeld (fun z hz => by simp at hz; omega)) (unhide HL9)).mono ?_
    rintro e y1 ⟨v2, rfl, r8, b⟩
    go_wp2_with fail
    replace cR := CsAt.below cR b (CsAt.lt cR (by simp))
    refine hK.out _ _ (hHeld.trans (Kept.of b)) (fun hHeld => ?_)
    clear hK K
    try simp only [Act.put, List.setIfInBounds_toArray, List.set_cons_zero, List.set_cons_succ]
    have z1 := b.size
    clear b
    refine oneL 4 rfl (by kernel_rfl) rfl (fun K hK => ?_)
    have pcR := cR.put [.slice f1 n1 c1, .slice f2 n2 c2] rfl
    have kz := OrdL.kcells y1 (w.heap.size + 1 + 1) 0 [.slice f1 n1 c1, .slice f2 n2 c2]
    refine wp_store_mid 26 _ _ rfl (w.heap.size + 1 + 1) 0 [.slice f1 n1 c1, .slice f2 n2 c2].toArray rfl rfl cR.free (unhide HSS) (by kernel_rfl) ?_
    refine hK.out _ _ (hHeld.then kz (fun y hy => by simp at hy; subst hy; first | (left; simp; done) | (right; omega))) (fun hHeld => ?_)
    clear hK K
    try simp only [Act.put, List.setIfInBounds_toArray, List.set_cons_zero, List.set_cons_succ]
    replace r8 := Sts.kept r8 kz (fun z hz => by simp at hz; omega)
    clear cR kz
    generalize y1.setCells (w.heap.size + 1 + 1) 0 [.slice f1 n1 c1, .slice f2 n2 c2] = y2 at *
    have cR := pcR
    clear pcR
    refine takeL 5 (v2) rfl (by kernel_rfl) (by kernel_rfl) (by kernel_rfl) (fun _ _ _ h => h) (Or.inl ⟨rfl, fun _ _ => rfl⟩) hHeld ?_
    try simp only [Act.put, List.setIfInBounds_toArray, List.set_cons_zero, List.set_cons_succ]
    refine wpAnyH_done (by kernel_rfl) ?_ _
    refine NoPanic.normal ?_
    have IZ := InT.mono (lo' := w.heap.size) (hi' := y2.heap.size) ((unhide I6).only (OnlyG.kept hHeld) (fun z hz => .inl (by simp at hz; omega))) (by omega) (by have := hHeld.size; omega)
    have VZ := r8.mono (lo' := w.heap.size) (by omega)
    rw [unhide HBG] at VZ
    have BZ := B6.trans (Kept.below hHeld (B := w.heap.size) (by simp; omega) (by omega))
    have HP : Hid (HpPost w bs dk x (.returned (.tuple #[.agg #[.slice f1 n1 c1, .slice f2 n2 c2], v2])) y2) := ⟨_, _, _, rfl, IZ, VZ, BZ⟩
    clear IZ VZ BZ I6 r8 hHeld
    go_wp2
    exact bodyPost_ret (res_cell_tmp Tryz.results134 _ _ (w.heap.size + 1 + 1) [.slice f1 n1 c1, .slice f2 n2 c2] _ rfl cR.cells Tryz.underlying26 rfl (by kernel_rfl)) rfl (unhide HP)
end Go.Proofs.YtogfelpdgeionaaGreat.PdC

/-
  What a store is behind one thing that happens: the program's answer and the specification's.
-/
namespace Go.Proofs.YtogfelpdgeionaaGreat.PdD
open TwA Go.ChangeShapes Go.WideShapes Go.ChangeAt Go.RowKit Go.Shelf OkA Big Fl ImplB ImplF ImplS _root_.Go.Proofs.YtogfelpdgeionaaGreat.Own ImplT ImplU SpecA SpecB SpecC SpecD SpecW SpecF SpecG SpecH Ok2 Pl FindP ImplL Kp StA StB StC StD StE StF StG SpS SpT RmA WrA FlA DoA ToA PlA LawU LawS LawV LawI LawT LawW SpU TwB TwC QuB QuE SpV MkN Ct AlX PaA PaB DpX Cu PdA PdB PdC EvL SpV
set_option linter.unusedVariables false
set_option linter.unusedSimpArgs false
attribute [local go_sem ↓] Go.wp_at_zero Go.wp_at_succ

def DoPost (w : World) (bs : List Bk) (dk : List Int) (x : Ev) (e : Ending) (w' : World) : Prop := ∃ X Y, e = .returned (.agg #[X, Y]) ∧ InT w' w.heap.size w'.heap.size X Y (stB bs dk) (doP bs dk x).1 (doP bs dk x).2 ∧ Below w.heap.size w w'

set_option maxRecDepth 100000 in
set_option maxHeartbeats 4000000 in
theorem implDo_any (x : Ev) (hx : EvOk x) (fa : Option Addr) (fc : Nat) (bs : List Bk) (da : Option Addr) (dc : Nat) (dk : List Int) (w : World) (h : SAt w fa bs da dk) (hm : bs.length ≤ 9223372036854775807) (hm2 : dk.length ≤ 9223372036854775807) :
    Calls Tryz.prog 61 #[.agg #[.slice fa bs.length fc, .slice da dk.length dc], .agg #[.int .i64 x.k, .int .i64 x.a, .int .i64 x.b, .int .i64 x.c, .bool x.t]] w fun e w' => DoPost w bs dk x e w' := by
  have B1 : Below w.heap.size w (((w.alloc (.cells #[.slice fa bs.length fc, .slice da dk.length dc] 26)).alloc (.cells #[.int .i64 x.k, .int .i64 x.a, .int .i64 x.b, .int .i64 x.c, .bool x.t] 62)).alloc (.cells #[.slice none 0 0, .slice none 0 0] 26)) := (((Below.refl _ _).alloc (Nat.le_refl _) _).alloc (by simp) _).alloc (by simp; omega) _
  have cS := ((store_box w (.slice fa bs.length fc) (.slice da dk.length dc)).alloc (by simp) (.cells #[.int .i64 x.k, .int .i64 x.a, .int .i64 x.b, .int .i64 x.c, .bool x.t] 62)).alloc (by simp; omega) (.cells #[.slice none 0 0, .slice none 0 0] 26)
  have cE := (CsAt.new (w.alloc (.cells #[.slice fa bs.length fc, .slice da dk.length dc] 26)) [.int .i64 x.k, .int .i64 x.a, .int .i64 x.b, .int .i64 x.c, .bool x.t] 62).alloc (by simp) (.cells #[.slice none 0 0, .slice none 0 0] 26)
  rw [World.size_alloc] at cE
  have cR := store_box ((w.alloc (.cells #[.slice fa bs.length fc, .slice da dk.length dc] 26)).alloc (.cells #[.int .i64 x.k, .int .i64 x.a, .int .i64 x.b, .int .i64 x.c, .bool x.t] 62)) (.slice none 0 0) (.slice none 0 0)
  rw [World.size_alloc, World.size_alloc] at cR
  have s0 : w.heap.size + 3 ≤ ((((w.alloc (.cells #[.slice fa bs.length fc, .slice da dk.length dc] 26)).alloc (.cells #[.int .i64 x.k, .int .i64 x.a, .int .i64 x.b, .int .i64 x.c, .bool x.t] 62)).alloc (.cells #[.slice none 0 0, .slice none 0 0] 26))).heap.size := by simp
  have HA1 := hide (h.below B1)
  have HSS := hide (show (Tryz.prog.info? 26).map (·.size) = some 2 by kernel_rfl)
  have HSE := hide (show (Tryz.prog.info? 62).map (·.size) = some 5 by kernel_rfl)
  clear h
  have HP := hide (happen_i x hx fa fc bs da dc dk _ (unhide HA1) hm hm2)
  have x0 := cS.cell 0 _ rfl
  have x1 := cS.cell 1 _ rfl
  have e0 := cE.cell 0 _ rfl
  have e1 := cE.cell 1 _ rfl
  have e2 := cE.cell 2 _ rfl
  have e3 := cE.cell 3 _ rfl
  have e4 := cE.cell 4 _ rfl
  clear HA1
  go_enter Tryz.func61, Tryz.ntmps61
  go_wp2_with fail
  generalize (((w.alloc (.cells #[.slice fa bs.length fc, .slice da dk.length dc] 26)).alloc (.cells #[.int .i64 x.k, .int .i64 x.a, .int .i64 x.b, .int .i64 x.c, .bool x.t] 62)).alloc (.cells #[.slice none 0 0, .slice none 0 0] 26)) = w1 at *
  refine (unhide HP).mono ?_
  rintro e w2 ⟨X, Y, v, rfl, I, hV, b2⟩
  obtain ⟨f1, n1, c1, f2, n2, c2, rfl, rfl⟩ := I.form
  have q2 := b2.size
  have cR2 := cR.below b2 (by omega)
  have B2 := B1.trans (b2.mono B1.size)
  clear x0 x1 e0 e1 e2 e3 e4 cS cE cR B1 b2 HP hV
  have bN : Below w2.heap.size w2 (w2.alloc (.cells #[.slice f1 n1 c1, .slice f2 n2 c2] 26)) := (Below.refl _ _).alloc (Nat.le_refl _) _
  have cT := store_box w2 (.slice f1 n1 c1) (.slice f2 n2 c2)
  have I3 := I.below bN
  have cR3 := cR2.below bN (by omega)
  have B3 := B2.trans (bN.mono B2.size)
  have s3 : (w2.alloc (.cells #[.slice f1 n1 c1, .slice f2 n2 c2] 26)).heap.size = w2.heap.size + 1 := by simp
  clear bN I cR2 B2
  go_upto_region 2 with fail
  generalize w2.alloc (.cells #[.slice f1 n1 c1, .slice f2 n2 c2] 26) = w3 at *
  generalize w2.heap.size = TB at *
  have t0 := cT.cell 0 _ rfl
  have t1 := cT.cell 1 _ rfl
  have d0 := cR3.cell 0 _ rfl
  have d1 := cR3.cell 1 _ rfl
  have f0 := cR3.frozen 0 (by simp)
  have f1' := cR3.frozen 1 (by simp)
  have p1 := cR3.put [.slice f1 n1 c1, .slice f2 n2 c2] rfl
  have kz := kept_cells w3 (w.heap.size + 1 + 1) 0 [.slice f1 n1 c1, .slice f2 n2 c2]
  have IZ := InT.mono (lo' := w.heap.size) (hi' := (w3.setCells (w.heap.size + 1 + 1) 0 [.slice f1 n1 c1, .slice f2 n2 c2]).heap.size) (I3.only (OnlyG.kept kz) (fun z hz => .inl (by simp at hz; omega))) (by omega) (by rw [size_setCells]; omega)
  have BZ := below_setCells (w.heap.size + 1 + 1) (by omega) [.slice f1 n1 c1, .slice f2 n2 c2] 0 _ B3
  have HP : Hid (DoPost w bs dk x (.returned (.agg #[.slice f1 n1 c1, .slice f2 n2 c2])) (w3.setCells (w.heap.size + 1 + 1) 0 [.slice f1 n1 c1, .slice f2 n2 c2])) := ⟨_, _, rfl, IZ, BZ⟩
  clear IZ BZ I3 B3 kz cT
  go_wp2
  exact bodyPost_ret (res_cell_mid Tryz.results61 _ _ (w.heap.size + 1 + 1) [.slice f1 n1 c1, .slice f2 n2 c2] _ rfl p1.cells Tryz.underlying26 rfl (by kernel_rfl)) rfl (unhide HP)

set_option maxRecDepth 100000 in
set_option maxHeartbeats 4000000 in
theorem specDo_any (x : Ev) (fa : Option Addr) (fc : Nat) (bs : List Bk) (da : Option Addr) (dc : Nat) (dk : List Int) (w : World) (h : SAt w fa bs da dk) (hm : bs.length ≤ 1048576) (hp : ∀ b ∈ bs, b.ps.length ≤ 1048576) (hm2 : dk.length ≤ 1048576) :
    Calls Tryz.prog 60 #[.agg #[.slice fa bs.length fc, .slice da dk.length dc], .agg #[.int .i64 x.k, .int .i64 x.a, .int .i64 x.b, .int .i64 x.c, .bool x.t]] w fun e w' => DoPost w bs dk x e w' := by
  have B1 : Below w.heap.size w (((w.alloc (.cells #[.slice fa bs.length fc, .slice da dk.length dc] 26)).alloc (.cells #[.int .i64 x.k, .int .i64 x.a, .int .i64 x.b, .int .i64 x.c, .bool x.t] 62)).alloc (.cells #[.slice none 0 0, .slice none 0 0] 26)) := (((Below.refl _ _).alloc (Nat.le_refl _) _).alloc (by simp) _).alloc (by simp; omega) _
  have cS := ((store_box w (.slice fa bs.length fc) (.slice da dk.length dc)).alloc (by simp) (.cells #[.int .i64 x.k, .int .i64 x.a, .int .i64 x.b, .int .i64 x.c, .bool x.t] 62)).alloc (by simp; omega) (.cells #[.slice none 0 0, .slice none 0 0] 26)
  have cE := (CsAt.new (w.alloc (.cells #[.slice fa bs.length fc, .slice da dk.length dc] 26)) [.int .i64 x.k, .int .i64 x.a, .int .i64 x.b, .int .i64 x.c, .bool x.t] 62).alloc (by simp) (.cells #[.slice none 0 0, .slice none 0 0] 26)
  rw [World.size_alloc] at cE
  have cR := store_box ((w.alloc (.cells #[.slice fa bs.length fc, .slice da dk.length dc] 26)).alloc (.cells #[.int .i64 x.k, .int .i64 x.a, .int .i64 x.b, .int .i64 x.c, .bool x.t] 62)) (.slice none 0 0) (.slice none 0 0)
  rw [World.size_alloc, World.size_alloc] at cR
  have s0 : w.heap.size + 3 ≤ ((((w.alloc (.cells #[.slice fa bs.length fc, .slice da dk.length dc] 26)).alloc (.cells #[.int .i64 x.k, .int .i64 x.a, .int .i64 x.b, .int .i64 x.c, .bool x.t] 62)).alloc (.cells #[.slice none 0 0, .slice none 0 0] 26))).heap.size := by simp
  have HA1 := hide (h.below B1)
  have HSS := hide (show (Tryz.prog.info? 26).map (·.size) = some 2 by kernel_rfl)
  have HSE := hide (show (Tryz.prog.info? 62).map (·.size) = some 5 by kernel_rfl)
  clear h
  have HOK := hide (specOk_st fa fc bs da dc dk _ (unhide HA1) hm hp hm2)
  have x0 := cS.cell 0 _ rfl
  have x1 := cS.cell 1 _ rfl
  go_enter Tryz.func60, Tryz.ntmps60
  go_wp2_with fail
  generalize (((w.alloc (.cells #[.slice fa bs.length fc, .slice da dk.length dc] 26)).alloc (.cells #[.int .i64 x.k, .int .i64 x.a, .int .i64 x.b, .int .i64 x.c, .bool x.t] 62)).alloc (.cells #[.slice none 0 0, .slice none 0 0] 26)) = w1 at *
  refine (unhide HOK).mono ?_
  rintro e w2 ⟨rfl, b2⟩
  have q2 := b2.size
  replace cS := cS.below b2 (by omega)
  replace cE := cE.below b2 (by omega)
  replace cR := cR.below b2 (by omega)
  have B2 := B1.trans (b2.mono B1.size)
  have HA2 := hide ((unhide HA1).below b2)
  clear x0 x1 B1 b2 HOK HA1
  cases hst : stB bs dk
  · have d0 := cR.cell 0 _ rfl
    have d1 := cR.cell 1 _ rfl
    have f0 := cR.frozen 0 (by simp)
    have f1' := cR.frozen 1 (by simp)
    have p1 := cR.put [.slice none 0 0, .slice none 0 0] rfl
    have BZ := below_setCells (w.heap.size + 1 + 1) (by omega) [.slice none 0 0, .slice none 0 0] 0 _ B2
    have HP : Hid (DoPost w bs dk x (.returned (.agg #[.slice none 0 0, .slice none 0 0])) (w2.setCells (w.heap.size + 1 + 1) 0 [.slice none 0 0, .slice none 0 0])) := ⟨_, _, rfl, .inl ⟨hst, rfl, rfl⟩, BZ⟩
    clear BZ B2 hst cS cE cR
    go_wp2
    exact bodyPost_ret (res_cell_mid Tryz.results60 _ _ (w.heap.size + 1 + 1) [.slice none 0 0, .slice none 0 0] _ rfl p1.cells Tryz.underlying26 rfl (by kernel_rfl)) rfl (unhide HP)
  obtain ⟨hok, h6⟩ := st_parts hst
  have h4 := ok_len hok
  have hF := ok_fours hok
  obtain ⟨fb, fo, rfl, hf1⟩ := fsome (unhide HA2).fs h4
  obtain ⟨db, dof, rfl, hd1⟩ := dsome (unhide HA2).ds h6
  rw [h4, h6] at cS
  have hdl : db < w2.heap.size := by have := Fl.cell_lt (isC_at hd1 0 (by omega)); simpa using this
  have bd : Below w2.heap.size w2 w2.drew := (Below.refl _ _).drew
  have HCP := hide (l11Copy_any fb fo fc db dof dc bs hF h4 dk h6 w2.drew (fun i hi => (hf1 i hi).below bd) (rangeAt_below hd1 bd hdl))
  have HHX := hide (fun lo g d c1 c2 G w' (hSt : St w' lo g d G bs dk) => happen_x lo g d c1 c2 G bs dk x.k x.a x.b x.c x.t w' hSt hok)
  have hst' := hide hst
  have h46 := hide (And.intro h4 h6)
  clear hf1 hd1 HA2 hst h4 h6 hF bd hdl
  go_upto_region 3 with fail
  refine wp_region_noPanic ?_
  refine wp_region_held_drew (S := fun w' => Kept [w.heap.size + 1 + 1] w2 w') (by kernel_rfl) (Kept.refl _ _).drew (fun hHeld => ?_)
  replace cR := OrdL.ckept cR (L := []) (Kept.refl [] w2).drew (CsAt.lt cR (by first | (simp; done) | assumption)) (by simp)
  generalize w2.drew = y0 at *
  have z0 := hHeld.size
  refine takeL 0 (.agg #[.slice (some ⟨fb, fo, none⟩) 4 fc, .slice (some ⟨db, dof, none⟩) 6 dc]) rfl (by kernel_rfl) (by kernel_rfl) (by kernel_rfl) (fun _ _ _ h => h) (yieldsIf_load_mid rfl 26 _ rfl w.heap.size 0 rfl [.slice (some ⟨fb, fo, none⟩) 4 fc, .slice (some ⟨db, dof, none⟩) 6 dc] _ (fun _ h => (csAt_kept cS h (by omega) (by simp; omega)).cells) Tryz.underlying26 rfl (unhide HSS)) hHeld ?_
  try simp only [Act.put, List.setIfInBounds_toArray, List.set_cons_zero, List.set_cons_succ]
  refine takeL 2 (.agg #[.int .i64 x.k, .int .i64 x.a, .int .i64 x.b, .int .i64 x.c, .bool x.t]) rfl (by kernel_rfl) (by kernel_rfl) (by kernel_rfl) (fun _ _ _ h => h) (yieldsIf_load_mid rfl 62 _ rfl (w.heap.size + 1) 0 rfl [.int .i64 x.k, .int .i64 x.a, .int .i64 x.b, .int .i64 x.c, .bool x.t] _ (fun _ h => (csAt_kept cE h (by omega) (by first | (simp; done) | (simp; omega))).cells) Tryz.underlying62 rfl (unhide HSE)) hHeld ?_
  try simp only [Act.put, List.setIfInBounds_toArray, List.set_cons_zero, List.set_cons_succ]
  refine oneL 1 rfl (by kernel_rfl) rfl (fun K hK => ?_)
  go_simp
  refine (unhide HCP).mono ?_
  rintro e y1 ⟨g, G, d, c1, c2, rfl, o4, b⟩
  go_wp2_with fail
  replace cR := CsAt.below cR b (CsAt.lt cR (by simp))
  refine hK.out _ _ (hHeld.trans (Kept.of b)) (fun hHeld => ?_)
  clear hK K
  try simp only [Act.put, List.setIfInBounds_toArray, List.set_cons_zero, List.set_cons_succ]
  have z1 := b.size
  clear b
  refine oneL 3 rfl (by kernel_rfl) rfl (fun K hK => ?_)
  have hSt : St y1 y0.heap.size g d G bs dk := ⟨by have := o4.own; rwa [(unhide h46).1] at this, o4.ds, o4.dlo, o4.dhi, o4.dne, (unhide h46).2⟩
  have hlo : ∀ z ∈ d :: g :: G, y0.heap.size ≤ z := fun z hz => by rcases List.mem_cons.1 hz with rfl | hz; exact o4.dlo; exact o4.own.lo z hz
  go_simp
  refine (unhide HHX _ _ _ _ _ _ _ hSt).mono ?_
  rintro e y2 ⟨rfl, hokP, hS5, k5⟩
  go_wp2_with fail
  have S5 : OwnS y2 y0.heap.size g G d (doP bs dk x).1 (doP bs dk x).2 := ⟨by rw [show (doP bs dk x).1.length = 4 from ok_len hokP]; exact hS5.own, hS5.disk, hS5.dlo, hS5.dhi, hS5.dn⟩
  have I : InT y2 y0.heap.size y2.heap.size (.slice (some ⟨g, 0, none⟩) 4 c1) (.slice (some ⟨d, 0, none⟩) 6 c2) true (doP bs dk x).1 (doP bs dk x).2 := .inr ⟨rfl, g, G, d, c1, c2, rfl, rfl, S5, fun z hz => ⟨hlo z hz, by rcases List.mem_cons.1 hz with rfl | hz; exact hS5.dhi; exact hS5.own.hi z hz⟩, ok_fours hokP, ok_len hokP, hS5.six⟩
  replace cR := csAt_kept cR k5 (CsAt.lt cR (by simp)) (fun hm => by have := hlo _ hm; omega)
  refine hK.out _ _ (hHeld.then k5 (fun z hz => .inr (by have := hlo z hz; omega))) (fun hHeld => ?_)
  clear hK K
  try simp only [Act.put, List.setIfInBounds_toArray, List.set_cons_zero, List.set_cons_succ]
  have z2 := k5.size
  clear hSt o4 S5 hS5 k5 hokP
  refine oneL 4 rfl (by kernel_rfl) rfl (fun K hK => ?_)
  have pcR := cR.put [.slice (some ⟨g, 0, none⟩) 4 c1, .slice (some ⟨d, 0, none⟩) 6 c2] rfl
  have kz := OrdL.kcells y2 (w.heap.size + 1 + 1) 0 [.slice (some ⟨g, 0, none⟩) 4 c1, .slice (some ⟨d, 0, none⟩) 6 c2]
  refine wp_store_mid 26 _ _ rfl (w.heap.size + 1 + 1) 0 [.slice (some ⟨g, 0, none⟩) 4 c1, .slice (some ⟨d, 0, none⟩) 6 c2].toArray rfl rfl cR.free (unhide HSS) (by kernel_rfl) ?_
  refine hK.out _ _ (hHeld.then kz (fun y hy => by simp at hy; subst hy; first | (left; simp; done) | (right; omega))) (fun hHeld => ?_)
  clear hK K
  try simp only [Act.put, List.setIfInBounds_toArray, List.set_cons_zero, List.set_cons_succ]
  replace I := I.only (OnlyG.kept kz) (fun z hz => .inl (by simp at hz; omega))
  have zk := kz.size
  clear cR kz
  generalize y2.setCells (w.heap.size + 1 + 1) 0 [.slice (some ⟨g, 0, none⟩) 4 c1, .slice (some ⟨d, 0, none⟩) 6 c2] = y3 at *
  have cR := pcR
  clear pcR
  refine wpAnyH_done (by kernel_rfl) ?_ _
  refine NoPanic.normal ?_
  have IZ := InT.mono (lo' := w.heap.size) (hi' := y3.heap.size) I (by omega) (by have := hHeld.size; omega)
  have BZ := B2.trans (Kept.below hHeld (B := w.heap.size) (by simp; omega) (by omega))
  have HP : Hid (DoPost w bs dk x (.returned (.agg #[.slice (some ⟨g, 0, none⟩) 4 c1, .slice (some ⟨d, 0, none⟩) 6 c2])) y3) := ⟨_, _, rfl, by rw [unhide hst']; exact IZ, BZ⟩
  clear IZ BZ I hHeld
  go_wp2
  exact bodyPost_ret (res_cell_mid Tryz.results60 _ _ (w.heap.size + 1 + 1) [.slice (some ⟨g, 0, none⟩) 4 c1, .slice (some ⟨d, 0, none⟩) 6 c2] _ rfl cR.cells Tryz.underlying26 rfl (by kernel_rfl)) rfl (unhide HP)
end Go.Proofs.YtogfelpdgeionaaGreat.PdD

/-
  The laws' helpers over lists of events: how many; the same in memory of its own; whether two are the same; marks; an argument that is such a list.
-/
namespace Go.Proofs.YtogfelpdgeionaaGreat.EvS
open Go.ChangeShapes Go.WideShapes Go.ChangeAt Go.RowKit Go.Shelf Go.Joins Go.Deep OkA Big Fl ImplB ImplF ImplS _root_.Go.Proofs.YtogfelpdgeionaaGreat.Own ImplT ImplU SpecA SpecB SpecC SpecD SpecW Ok2 OpenF Pl ImplL Kp StA StB StD StF StG RmA FlA LawsA LawsB LawsE LawV MarkB LawI LawT PaA EvL MkN
set_option linter.unusedVariables false
set_option linter.unusedSimpArgs false
attribute [local go_sem ↓] Go.wp_at_zero Go.wp_at_succ

def esC (l : List Ev) : List Value := l.flatMap evC
theorem len_esC (l : List Ev) : (esC l).length = l.length * 5 := by
  unfold esC; induction l with
  | nil => rfl
  | cons x r ih => simp only [List.flatMap_cons, List.length_append, ih, List.length_cons, evC, List.length_nil]; omega
theorem one_evC (x : Ev) : ∀ v ∈ evC x, v.oneCell' = true := by intro v hv; simp [evC] at hv; rcases hv with rfl | rfl | rfl | rfl | rfl <;> rfl
/-- A list of steps lies there. -/
def EsAt (w : World) (a : Option Addr) (l : List Ev) : Prop := l = [] ∨ ∃ b o, a = some ⟨b, o, none⟩ ∧ w.rangeAt b o (esC l)
theorem ev_part (l : List Ev) (i : Nat) (hi : i < l.length) : ((esC l).drop (i * 5)).take 5 = evC l[i] := part_of evC 5 l (fun _ _ => rfl) i hi
theorem ev_at {w : World} {gs so : Nat} {L : List Ev} (h : w.rangeAt gs so (esC L)) (n : Nat) (hn : n < L.length) : w.rangeAt gs (so + n * 5) (evC L[n]) := by
  have := rangeAt_sub h (n * 5) 5
  rwa [ev_part L n hn] at this
theorem esC_lt {w : World} {b o : Nat} {l : List Ev} (h : w.rangeAt b o (esC l)) (hl : 0 < l.length) : b < w.heap.size := by
  cases l with
  | nil => simp at hl
  | cons x r => exact cell_lt (h 0 (.int .i64 x.k) rfl)
theorem EsAt.below {w w' : World} {a : Option Addr} {l : List Ev} (h : EsAt w a l) (hb : Below w.heap.size w w') : EsAt w' a l := by
  rcases h with h | ⟨b, o, rfl, h⟩
  · exact .inl h
  · by_cases q : 0 < l.length
    · exact .inr ⟨b, o, rfl, rangeAt_below h hb (esC_lt h q)⟩
    · exact .inl (List.length_eq_zero_iff.1 (by omega))
theorem EsAt.at {w : World} {a : Option Addr} {l : List Ev} (h : EsAt w a l) (k : Nat) (hk : k < l.length) : ∃ b o, a = some ⟨b, o, none⟩ ∧ w.rangeAt b (o + k * 5) (evC l[k]) ∧ b < w.heap.size := by
  rcases h with rfl | ⟨b, o, rfl, h⟩
  · simp at hk
  · exact ⟨b, o, rfl, ev_at h k hk, esC_lt h (by omega)⟩
theorem size_ev5 (x : Ev) : (Tryz.prog.info? 62).map (·.size) = some (evC x).length := by show _ = some 5; kernel_rfl
theorem size_ev5a (x : Ev) : (Tryz.prog.info? 62).map (·.size) = some (evC x).toArray.size := by show _ = some 5; kernel_rfl
theorem one_ev (x : Ev) : (evC x).toArray.all (·.oneCell') = true := all_oneCell_toArray (one_evC x)

set_option maxHeartbeats 400000 in
theorem eqEvent_any (x : Ev) (w : World) :
    Calls Tryz.prog 138 #[.agg (evC x).toArray, .agg (evC x).toArray] w fun e w' => e = .returned (.bool true) ∧ Below w.heap.size w w' := by
  show Calls Tryz.prog 138 #[.agg #[.int .i64 x.k, .int .i64 x.a, .int .i64 x.b, .int .i64 x.c, .bool x.t], .agg #[.int .i64 x.k, .int .i64 x.a, .int .i64 x.b, .int .i64 x.c, .bool x.t]] w _
  have B0 : ∀ x y, Below w.heap.size w ((w.alloc x).alloc y) := fun x y => ((Below.refl _ _).alloc (Nat.le_refl _) _).alloc (by simp) _
  go_enter Tryz.func138, Tryz.ntmps138
  go_wp2
  go_ret
  exact ⟨rfl, B0 _ _⟩

set_option maxHeartbeats 1000000 in
theorem eqEventS_any (a1 a2 : Option Addr) (cap1 cap2 : Nat) (l : List Ev) (w : World) (h1 : EsAt w a1 l) (h2 : EsAt w a2 l) (hl : l.length ≤ 1048576) :
    Calls Tryz.prog 67 #[.slice a1 l.length cap1, .slice a2 l.length cap2] w fun e w' => e = .returned (.bool true) ∧ Below w.heap.size w w' := by
  have hli : (l.length : Int) ≤ 1048576 := by omega
  have H1 := hide h1
  have H2 := hide h2
  clear h1 h2
  go_enter Tryz.func67, Tryz.ntmps67
  go_wp2
  go_loopw [5] (fun i w' => ∃ k : Nat, k ≤ l.length ∧ i = .int .i64 k ∧ Below w.heap.size w w') (fun i _ => l.length - (intOf i).toNat)
  case atStart => exact ⟨0, by omega, rfl, Below.refl _ _⟩
  case round =>
    obtain ⟨k, hk, rfl, bw⟩ := hrel
    by_cases h0 : k = l.length
    · subst h0
      go_wp2
      go_ret
      exact ⟨rfl, bw⟩
    · have hlt : (k : Int) < (l.length : Int) := by omega
      have hkb : k < l.length := by omega
      have hlo : (0 : Int) ≤ (k : Int) := by omega
      obtain ⟨b1, o1, rfl, x1, l1⟩ := ((unhide H1).below bw).at k hkb
      obtain ⟨b2, o2, rfl, x2, l2⟩ := ((unhide H2).below bw).at k hkb
      have HC := hide (eqEvent_any l[k])
      have HS1 := hide (size_ev5 l[k])
      have HS2 := hide (size_ev5 l[k])
      generalize evC l[k] = pc at *
      go_wp2_with fail
      refine wp_region_noPanic ?_
      refine wp_region_held_drew (S := fun w' => w'.rangeAt b1 (o1 + k * 5) pc ∧ w'.rangeAt b2 (o2 + k * 5) pc) (by kernel_rfl) (⟨by simpa using x1, by simpa using x2⟩) (fun hHeld => ?_)
      refine takeL 0 (.slice (some ⟨b1, o1, none⟩) l.length cap1) rfl (by kernel_rfl) (by kernel_rfl) (by kernel_rfl) (fun _ _ _ h => h) (Or.inl ⟨rfl, fun _ _ => rfl⟩) hHeld ?_
      try simp only [Act.put, List.setIfInBounds_toArray, List.set_cons_zero, List.set_cons_succ]
      refine takeL 1 (.int .i64 k) rfl (by kernel_rfl) (by kernel_rfl) (by kernel_rfl) (fun _ _ _ h => h) (Or.inl ⟨rfl, fun _ _ => rfl⟩) hHeld ?_
      try simp only [Act.put, List.setIfInBounds_toArray, List.set_cons_zero, List.set_cons_succ]
      refine takeL 2 (.pointer (some ⟨b1, o1 + k * 5, none⟩)) rfl (by kernel_rfl) (by kernel_rfl) (by kernel_rfl) (fun _ _ _ h => h) (Or.inl ⟨rfl, fun w9 hSw => by go_simp⟩) hHeld ?_
      try simp only [Act.put, List.setIfInBounds_toArray, List.set_cons_zero, List.set_cons_succ]
      refine takeL 3 (_) rfl (by kernel_rfl) (by kernel_rfl) (by kernel_rfl) (fun _ _ _ h => h) (yieldsIf_load_mid rfl 62 _ rfl b1 (o1 + k * 5) rfl pc _ (fun _ h => h.1) Tryz.underlying62 rfl (unhide HS1)) hHeld ?_
      try simp only [Act.put, List.setIfInBounds_toArray, List.set_cons_zero, List.set_cons_succ]
      refine takeL 4 (.slice (some ⟨b2, o2, none⟩) l.length cap2) rfl (by kernel_rfl) (by kernel_rfl) (by kernel_rfl) (fun _ _ _ h => h) (Or.inl ⟨rfl, fun _ _ => rfl⟩) hHeld ?_
      try simp only [Act.put, List.setIfInBounds_toArray, List.set_cons_zero, List.set_cons_succ]
      refine takeL 5 (.int .i64 k) rfl (by kernel_rfl) (by kernel_rfl) (by kernel_rfl) (fun _ _ _ h => h) (Or.inl ⟨rfl, fun _ _ => rfl⟩) hHeld ?_
      try simp only [Act.put, List.setIfInBounds_toArray, List.set_cons_zero, List.set_cons_succ]
      refine takeL 6 (.pointer (some ⟨b2, o2 + k * 5, none⟩)) rfl (by kernel_rfl) (by kernel_rfl) (by kernel_rfl) (fun _ _ _ h => h) (Or.inl ⟨rfl, fun w9 hSw => by go_simp⟩) hHeld ?_
      try simp only [Act.put, List.setIfInBounds_toArray, List.set_cons_zero, List.set_cons_succ]
      refine takeL 7 (_) rfl (by kernel_rfl) (by kernel_rfl) (by kernel_rfl) (fun _ _ _ h => h) (yieldsIf_load_mid rfl 62 _ rfl b2 (o2 + k * 5) rfl pc _ (fun _ h => h.2) Tryz.underlying62 rfl (unhide HS2)) hHeld ?_
      try simp only [Act.put, List.setIfInBounds_toArray, List.set_cons_zero, List.set_cons_succ]
      refine oneL 8 rfl (by kernel_rfl) rfl (fun K hK => ?_)
      go_simp
      refine (unhide HC _).mono ?_
      rintro e wz ⟨rfl, bz⟩
      go_wp2_with fail
      refine hK.out _ _ ⟨rangeAt_below hHeld.1 bz (by simpa using l1), rangeAt_below hHeld.2 bz (by simpa using l2)⟩ (fun hHeld => ?_)
      clear hK K
      try simp only [Act.put, List.setIfInBounds_toArray, List.set_cons_zero, List.set_cons_succ]
      refine takeL 9 (.bool false) rfl (by kernel_rfl) (by kernel_rfl) (by kernel_rfl) (fun _ _ _ h => h) (Or.inl ⟨rfl, fun w9 hSw => by go_simp⟩) hHeld ?_
      try simp only [Act.put, List.setIfInBounds_toArray, List.set_cons_zero, List.set_cons_succ]
      refine wpAnyH_done (by kernel_rfl) ?_ _
      refine NoPanic.normal ?_
      have B2 := bw.drew.trans (bz.mono bw.size)
      clear bz bw x1 x2
      go_wp2
      go_roundw
      case rel => exact ⟨k + 1, by omega, by first | rfl | go_num, B2⟩
      case measure => simp [intOf]; omega

/-! Marks. -/
theorem there1 {w : World} {b o n : Nat} (h : w.there b o n) (p : Nat) (i : Nat) (v : Value) : (w.setCell ⟨p, i, none⟩ v).there b o n := World.there_setCells h p i [v]
set_option maxRecDepth 100000 in
set_option maxHeartbeats 4000000 in
theorem markEventS_any (pb cap n : Nat) (k : Int) (w : World) (hk0 : 0 ≤ k) (hk1 : k ≤ 7000000000000) (hn : n ≤ 1048576) (ht : w.there pb 0 (n * 5)) :
    Calls Tryz.prog 68 #[.slice (some ⟨pb, 0, none⟩) n cap, .int .i64 k] w fun e w' => e = .returned (.int .i64 (k + 5 * (n : Nat))) ∧ Kept [pb] w w' := by
  have hni : (n : Int) ≤ 1048576 := by omega
  go_enter Tryz.func68, Tryz.ntmps68
  go_wp2
  go_loopw [5, 1] (fun i m w' => ∃ (j : Nat) (M : Int), j ≤ n ∧ i = .int .i64 j ∧ m = .int .i64 M ∧ M = k + 5 * (j : Nat) ∧ Hid (Kept [pb] w w') ∧ Hid (w'.there pb 0 (n * 5))) (fun i _ _ => n - (intOf i).toNat)
  case atStart => exact ⟨0, k, by omega, rfl, rfl, by omega, Kept.refl _ _, ht⟩
  case round =>
    obtain ⟨j, M, hj, rfl, rfl, hM, HK, HT⟩ := hrel
    by_cases h0 : j = n
    · subst h0
      go_wp2
      go_ret
      exact ⟨by rw [hM]; rfl, unhide HK⟩
    · have hlt : (j : Int) < (n : Int) := by omega
      have hlo : (0 : Int) ≤ (j : Int) := by omega
      have tr := unhide HT
      obtain ⟨v0, c0⟩ := there_some tr (j * 5) (by omega)
      obtain ⟨v1, c1⟩ := there_some tr (j * 5 + 1) (by omega)
      obtain ⟨v2, c2⟩ := there_some tr (j * 5 + 2) (by omega)
      obtain ⟨v3, c3⟩ := there_some tr (j * 5 + 3) (by omega)
      obtain ⟨v4, c4⟩ := there_some tr (j * 5 + 4) (by omega)
      have f0 := (tr (j * 5) (by omega)).2
      have f1 := (tr (j * 5 + 1) (by omega)).2
      have f2 := (tr (j * 5 + 2) (by omega)).2
      have f3 := (tr (j * 5 + 3) (by omega)).2
      have f4 := (tr (j * 5 + 4) (by omega)).2
      simp only [Nat.zero_add] at c0 c1 c2 c3 c4 f0 f1 f2 f3 f4
      have hM0 : 0 ≤ M := by omega
      have hM1 : M ≤ 7000010000000 := by omega
      have hm4 : IntKind.i64.wrap (M + 1 + 1 + 1 + 1) = M + 1 + 1 + 1 + 1 := by rw [IntKind.wrap_i64] <;> omega
      clear tr
      go_wp2
      go_roundw
      case rel =>
        refine ⟨j + 1, M + 5, by omega, by first | rfl | go_num, by first | rfl | go_num, by omega, ?_, ?_⟩
        · exact ((((((unhide HK).setCell (p := ⟨pb, j * 5, none⟩) (.inl (by simp)) _).setCell (p := ⟨pb, j * 5 + 1, none⟩) (.inl (by simp)) _).setCell (p := ⟨pb, j * 5 + 2, none⟩) (.inl (by simp)) _).setCell (p := ⟨pb, j * 5 + 3, none⟩) (.inl (by simp)) _).setCell (p := ⟨pb, j * 5 + 4, none⟩) (.inl (by simp)) _)
        · exact there1 (there1 (there1 (there1 (there1 (unhide HT) _ _ _) _ _ _) _ _ _) _ _ _) _ _ _
      case measure => simp [intOf]; omega
theorem markEs {w : World} {g cap : Nat} {l : List Ev} (k : Int) (hk0 : 0 ≤ k) (hk1 : k ≤ 7000000000000) (hl : l.length ≤ 1048576) (h : CsAt w g (esC l)) :
    Calls Tryz.prog 68 #[.slice (some ⟨g, 0, none⟩) l.length cap, .int .i64 k] w fun e w' => ∃ m : Int, e = .returned (.int .i64 m) ∧ 0 ≤ m ∧ OnlyG [g] w w' ∧ Kept [g] w w' := by
  have ht : w.there g 0 (l.length * 5) := by have := h.free; rwa [len_esC] at this
  refine (markEventS_any g cap l.length k w hk0 hk1 hl ht).mono ?_
  rintro e w' ⟨rfl, kk⟩
  exact ⟨_, rfl, by omega, OnlyG.kept kk, kk⟩

theorem evC_cells {w : World} {b o : Nat} {x : Ev} (h : w.rangeAt b o (evC x)) :
    w.cell? ⟨b, o, none⟩ = some (.int .i64 x.k) ∧ w.cell? ⟨b, o + 1, none⟩ = some (.int .i64 x.a) ∧ w.cell? ⟨b, o + 2, none⟩ = some (.int .i64 x.b) ∧ w.cell? ⟨b, o + 3, none⟩ = some (.int .i64 x.c) ∧ w.cell? ⟨b, o + 4, none⟩ = some (.bool x.t) :=
  ⟨h 0 _ rfl, h 1 _ rfl, h 2 _ rfl, h 3 _ rfl, h 4 _ rfl⟩
theorem toEv_any (x : Ev) (w : World) : Calls Tryz.prog 53 #[.agg #[.int .i64 x.k, .int .i64 x.a, .int .i64 x.b, .int .i64 x.c, .bool x.t]] w fun e w' => e = .returned (.agg (evC x).toArray) ∧ Below w.heap.size w w' := toEvent_any _ _ _ _ _ w

set_option maxHeartbeats 400000 in
theorem szEventS_any (a : Option Addr) (n cap : Nat) (l : Int) (w : World) (h0 : 0 ≤ l) (h1 : l ≤ 1048576) (hn : (n : Int) ≤ 9223372036854775807) :
    Calls Tryz.prog 63 #[.slice a n cap, .int .i64 l] w fun e w' => e = .returned (.int .i64 (szR l n)) ∧ w' = w := by
  by_cases h : l - n < 0
  · have HR : Hid (szR l n = -1) := if_pos h
    go_enter Tryz.func63, Tryz.ntmps63
    go_wp2
    go_ret
    exact ⟨by rw [unhide HR]; rfl, rfl⟩
  · have HR : Hid (szR l n = l - n) := if_neg h
    go_enter Tryz.func63, Tryz.ntmps63
    go_wp2
    go_ret
    exact ⟨by rw [unhide HR]; rfl, rfl⟩

theorem esC_take (ps : List Ev) (k : Nat) (hk : k < ps.length) : esC (ps.take (k + 1)) = esC (ps.take k) ++ evC ps[k] := by
  rw [List.take_succ_eq_append_getElem hk]; simp only [esC, List.flatMap_append, List.flatMap_cons, List.flatMap_nil, List.append_nil]

/-- A row of steps in new memory. -/
def RowE (w : World) (ps : List Ev) (e : Ending) (w' : World) : Prop := e = .returned (.slice (some ⟨w.heap.size, 0, none⟩) ps.length ps.length) ∧ CsAt w' w.heap.size (esC ps) ∧ w.heap.size < w'.heap.size ∧ Below w.heap.size w w'

set_option maxRecDepth 100000 in
set_option maxHeartbeats 1000000 in
theorem toEventS_any (a : Option Addr) (cap : Nat) (ps : List Ev) (w : World) (hps : EsAt w a ps) (hl : ps.length ≤ 1048576) :
    Calls Tryz.prog 65 #[.slice a ps.length cap] w fun e w' => RowE w ps e w' := by
  have t0 := there_made w #[.int .i64 0, .int .i64 0, .int .i64 0, .int .i64 0, .bool false] (ps.length * 5) 62
  have b0 : Below w.heap.size w (w.alloc (.cells (madeCells #[.int .i64 0, .int .i64 0, .int .i64 0, .int .i64 0, .bool false] (ps.length * 5)) 62)) := (Below.refl _ _).alloc (Nat.le_refl _) _
  have hli : (ps.length : Int) ≤ 1048576 := by omega
  have HP := hide hps
  clear hps
  go_enter Tryz.func65, Tryz.ntmps65
  go_wp2_with (first | (refine wpList_make_big rfl 71 _ _ rfl ps.length rfl rfl 62 5 40 (.agg #[.int .i64 0, .int .i64 0, .int .i64 0, .int .i64 0, .bool false]) Tryz.underlying71 (by kernel_rfl) (by omega) (by omega) ?_))
  generalize hw1 : w.alloc (.cells (madeCells #[.int .i64 0, .int .i64 0, .int .i64 0, .int .i64 0, .bool false] (ps.length * 5)) 62) = w1 at *
  have s1 : w.heap.size < w1.heap.size := by rw [← hw1]; simp
  clear hw1
  go_loopw [4] (fun i w' => ∃ k : Nat, k ≤ ps.length ∧ i = .int .i64 k ∧ w'.rangeAt w.heap.size 0 (esC (ps.take k)) ∧ w'.there w.heap.size 0 (ps.length * 5) ∧ w.heap.size < w'.heap.size ∧ Below w.heap.size w w') (fun i _ => ps.length - (intOf i).toNat)
  case atStart => exact ⟨0, by omega, rfl, (fun j v hv => by simp [esC] at hv), t0, s1, b0⟩
  case round =>
    obtain ⟨k, hk, rfl, rk, tk, sk, bw⟩ := hrel
    clear t0 b0
    by_cases h0 : k = ps.length
    · subst h0
      rw [List.take_of_length_le (Nat.le_refl _)] at rk
      go_wp2
      go_ret
      exact ⟨rfl, ⟨rk, by rw [len_esC]; exact tk⟩, sk, bw⟩
    · have hlt : (k : Int) < (ps.length : Int) := by omega
      have hkb : k < ps.length := by omega
      have hlo : (0 : Int) ≤ (k : Int) := by omega
      obtain ⟨pb, po, rfl, hr, hpl⟩ := (unhide HP).at k hkb
      obtain ⟨d0, d1, d2, d3, d4⟩ := evC_cells (rangeAt_below hr bw hpl)
      have HT := hide (esC_take ps k hkb)
      have lk : (esC (ps.take k)).length = k * 5 := by rw [len_esC, List.length_take, Nat.min_eq_left (by omega)]
      have LK := hide lk
      clear lk hr
      generalize ps[k] = x at *
      go_wp2_with fail
      refine (toEv_any x _).mono ?_
      rintro e w2 ⟨rfl, b2⟩
      have rk2 := rangeAt_below rk b2 sk
      have tk2 := there_below tk b2 sk
      have tk3 : w2.there w.heap.size (k * 5) (evC x).toArray.size := by have := there_sub tk2 (k * 5) 5 (by omega); rw [Nat.zero_add] at this; exact this
      have bw2 := bw.trans (b2.mono bw.size)
      have ss := b2.size
      have o5 := one_ev x
      have HI5 := hide (size_ev5a x)
      have HL := hide (show (evC x).length = 5 from rfl)
      clear d0 d1 d2 d3 d4 rk tk b2
      generalize evC x = pc at *
      go_wp2_with (first | (refine wpList_store_mid rfl 62 _ _ rfl w.heap.size (k * 5) pc.toArray rfl rfl tk3 (unhide HI5) o5 ?_))
      go_roundw
      case rel =>
        refine ⟨k + 1, by omega, by first | rfl | go_num, ?_, World.there_setCells tk2 _ _ _, by rw [size_setCells]; omega, below_setCells _ (Nat.le_refl _) _ _ _ bw2⟩
        rw [unhide HT, range_app, unhide LK, Nat.zero_add]
        exact ⟨World.rangeAt_setCells_apart rk2 _ _ _ (.inr (.inl (by rw [unhide LK]; omega))), World.rangeAt_setCells_same _ _ _ _ tk3⟩
      case measure => simp [intOf]; omega

/-! An argument that is a list of events. -/
variable {H : Type} {enc : TypeId × Value → H} {w : World}
theorem open_events {fuel : Nat} {V : Value} {x : DataW H × List MemPlace} (h : DataW.trod enc Tryz.prog w 0 (fun _ => true) true fuel 68 [V] = some x) :
    ∃ a ps cap, V = .slice a (ps : List Ev).length cap ∧ EsAt w a ps ∧ (∀ x ∈ ps, EvOk x) ∧ ps.length ≤ 9223372036854775807 := by
  rcases open_slice Tryz.underlying68 h with ⟨h0, _⟩ | ⟨a, len, cap, m, n, D, Pl, hc, _, hl, hm, hmm, _, hx⟩
  · simp at h0; subst h0; exact ⟨none, [], 0, rfl, .inl rfl, (fun x hx => by simp at hx), by simp⟩
  · simp at hc
    subst hc
    have hlm : len ≤ m := by rw [hmm]; simp; exact hl
    rw [show Tryz.prog.cellsOf 58 = 5 by kernel_rfl] at hx
    have hp : ∀ i, i < len → ∃ p : Ev, EvOk p ∧ ∀ j, j < 5 → w.cell? ((a.add (i * 5)).add j) = (evC p)[j]? := fun i hi => by
      obtain ⟨cs', h1, h2⟩ := hx i (by omega)
      obtain ⟨p, rfl, hok⟩ := open_event h2
      obtain ⟨_, _, h3⟩ := World.cells?_some h1
      exact ⟨p, hok, h3⟩
    have : Inhabited Ev := ⟨⟨0, 0, 0, 0, false⟩⟩
    obtain ⟨P, hP⟩ := choose_lt hp
    refine ⟨some a, (List.range len).map P, cap, by simp, ?_, (fun x hx => by obtain ⟨i, hi, rfl⟩ := List.mem_map.1 hx; exact (hP i (List.mem_range.1 hi)).1), ?_⟩
    · by_cases h0 : len = 0
      · subst h0; exact .inl rfl
      · obtain ⟨b, o, s⟩ := a
        have c0 := (hP 0 (by omega)).2 0 (by omega)
        rw [Nat.zero_mul] at c0
        have hs : s = none := by
          have : w.cell? ⟨b, o, s⟩ = some (.int .i64 (P 0).k) := by simpa [Addr.add, evC] using c0
          exact spot_none this
        subst hs
        refine .inr ⟨b, o, rfl, range_flat evC 5 _ o (fun _ _ => rfl) fun i hi j v hv => ?_⟩
        simp only [List.length_map, List.length_range] at hi
        simp only [List.getElem_map, List.getElem_range] at hv
        have hj : j < 5 := by have := (List.getElem?_eq_some_iff.1 hv).1; exact this
        have := (hP i hi).2 j hj
        rw [Addr.add_mid, Addr.add_mid] at this
        rw [this]; exact hv
    · simp
      have h1 := hm
      unfold maxLen at h1
      omega
end Go.Proofs.YtogfelpdgeionaaGreat.EvS
