/-
  What a store is behind one thing that happens: the program's answer and the specification's.
-/
import Derived.Test.YtogfelpdgeionaaGreatPdC
namespace Go.Proofs.YtogfelpdgeionaaGreat.PdD
open TwA Go.ChangeShapes Go.WideShapes Go.ChangeAt Go.RowKit Go.Shelf OkA Big Fl ImplB ImplF ImplS _root_.Go.Proofs.YtogfelpdgeionaaGreat.Own ImplT ImplU SpecA SpecB SpecC SpecD SpecW SpecF SpecG SpecH Ok2 Pl FindP ImplL Kp StA StB StC StD StE StF StG SpS SpT RmA WrA FlA DoA ToA PlA LawU LawS LawV LawI LawT LawW SpU TwB TwC QuB QuE SpV MkN Ct AlX PaA PaB DpX Cu PdA PdB PdC EvL SpV
set_option linter.unusedVariables false
set_option linter.unusedSimpArgs false
attribute [local go_sem ↓] Go.wp_at_zero Go.wp_at_succ

def DoPost (w : World) (bs : List Bk) (dk : List Int) (x : Ev) (e : Ending) (w' : World) : Prop := ∃ X Y, e = .returned (.agg #[X, Y]) ∧ InT w' w.heap.size w'.heap.size X Y (stB bs dk) (doP bs dk x).1 (doP bs dk x).2 ∧ Below w.heap.size w w'

set_option maxRecDepth 100000 in
set_option maxHeartbeats 4000000 in
theorem implDo_any (x : Ev) (hx : EvOk x) (fa : Option Addr) (fc : Nat) (bs : List Bk) (da : Option Addr) (dc : Nat) (dk : List Int) (w : World) (h : SAt w fa bs da dk) (hm : bs.length ≤ 9223372036854775807) (hm2 : dk.length ≤ 9223372036854775807) :
    Calls Tryz.prog 61 #[.agg #[.slice fa bs.length fc, .slice da dk.length dc], .agg #[.int .i64 x.k, .int .i64 x.a, .int .i64 x.b, .int .i64 x.c, .bool x.t]] w fun e w' => DoPost w bs dk x e w' := by
  have B1 : Below w.heap.size w (((w.alloc (.cells #[.slice fa bs.length fc, .slice da dk.length dc] 26)).alloc (.cells #[.int .i64 x.k, .int .i64 x.a, .int .i64 x.b, .int .i64 x.c, .bool x.t] 62)).alloc (.cells #[.slice none 0 0, .slice none 0 0] 26)) := (((Below.refl _ _).alloc (Nat.le_refl _) _).alloc (by simp) _).alloc (by simp; omega) _
  have cS := ((store_box w (.slice fa bs.length fc) (.slice da dk.length dc)).alloc (by simp) (.cells #[.int .i64 x.k, .int .i64 x.a, .int .i64 x.b, .int .i64 x.c, .bool x.t] 62)).alloc (by simp; omega) (.cells #[.slice none 0 0, .slice none 0 0] 26)
  have cE := (CsAt.new (w.alloc (.cells #[.slice fa bs.length fc, .slice da dk.length dc] 26)) [.int .i64 x.k, .int .i64 x.a, .int .i64 x.b, .int .i64 x.c, .bool x.t] 62).alloc (by simp) (.cells #[.slice none 0 0, .slice none 0 0] 26)
  rw [World.size_alloc] at cE
  have cR := store_box ((w.alloc (.cells #[.slice fa bs.length fc, .slice da dk.length dc] 26)).alloc (.cells #[.int .i64 x.k, .int .i64 x.a, .int .i64 x.b, .int .i64 x.c, .bool x.t] 62)) (.slice none 0 0) (.slice none 0 0)
  rw [World.size_alloc, World.size_alloc] at cR
  have s0 : w.heap.size + 3 ≤ ((((w.alloc (.cells #[.slice fa bs.length fc, .slice da dk.length dc] 26)).alloc (.cells #[.int .i64 x.k, .int .i64 x.a, .int .i64 x.b, .int .i64 x.c, .bool x.t] 62)).alloc (.cells #[.slice none 0 0, .slice none 0 0] 26))).heap.size := by simp
  have HA1 := hide (h.below B1)
  have HSS := hide (show (Tryz.prog.info? 26).map (·.size) = some 2 by kernel_rfl)
  have HSE := hide (show (Tryz.prog.info? 62).map (·.size) = some 5 by kernel_rfl)
  clear h
  have HP := hide (happen_i x hx fa fc bs da dc dk _ (unhide HA1) hm hm2)
  have x0 := cS.cell 0 _ rfl
  have x1 := cS.cell 1 _ rfl
  have e0 := cE.cell 0 _ rfl
  have e1 := cE.cell 1 _ rfl
  have e2 := cE.cell 2 _ rfl
  have e3 := cE.cell 3 _ rfl
  have e4 := cE.cell 4 _ rfl
  clear HA1
  go_enter Tryz.func61, Tryz.ntmps61
  go_wp2_with fail
  generalize (((w.alloc (.cells #[.slice fa bs.length fc, .slice da dk.length dc] 26)).alloc (.cells #[.int .i64 x.k, .int .i64 x.a, .int .i64 x.b, .int .i64 x.c, .bool x.t] 62)).alloc (.cells #[.slice none 0 0, .slice none 0 0] 26)) = w1 at *
  refine (unhide HP).mono ?_
  rintro e w2 ⟨X, Y, v, rfl, I, hV, b2⟩
  obtain ⟨f1, n1, c1, f2, n2, c2, rfl, rfl⟩ := I.form
  have q2 := b2.size
  have cR2 := cR.below b2 (by omega)
  have B2 := B1.trans (b2.mono B1.size)
  clear x0 x1 e0 e1 e2 e3 e4 cS cE cR B1 b2 HP hV
  have bN : Below w2.heap.size w2 (w2.alloc (.cells #[.slice f1 n1 c1, .slice f2 n2 c2] 26)) := (Below.refl _ _).alloc (Nat.le_refl _) _
  have cT := store_box w2 (.slice f1 n1 c1) (.slice f2 n2 c2)
  have I3 := I.below bN
  have cR3 := cR2.below bN (by omega)
  have B3 := B2.trans (bN.mono B2.size)
  have s3 : (w2.alloc (.cells #[.slice f1 n1 c1, .slice f2 n2 c2] 26)).heap.size = w2.heap.size + 1 := by simp
  clear bN I cR2 B2
  go_upto_region 2 with fail
  generalize w2.alloc (.cells #[.slice f1 n1 c1, .slice f2 n2 c2] 26) = w3 at *
  generalize w2.heap.size = TB at *
  have t0 := cT.cell 0 _ rfl
  have t1 := cT.cell 1 _ rfl
  have d0 := cR3.cell 0 _ rfl
  have d1 := cR3.cell 1 _ rfl
  have f0 := cR3.frozen 0 (by simp)
  have f1' := cR3.frozen 1 (by simp)
  have p1 := cR3.put [.slice f1 n1 c1, .slice f2 n2 c2] rfl
  have kz := kept_cells w3 (w.heap.size + 1 + 1) 0 [.slice f1 n1 c1, .slice f2 n2 c2]
  have IZ := InT.mono (lo' := w.heap.size) (hi' := (w3.setCells (w.heap.size + 1 + 1) 0 [.slice f1 n1 c1, .slice f2 n2 c2]).heap.size) (I3.only (OnlyG.kept kz) (fun z hz => .inl (by simp at hz; omega))) (by omega) (by rw [size_setCells]; omega)
  have BZ := below_setCells (w.heap.size + 1 + 1) (by omega) [.slice f1 n1 c1, .slice f2 n2 c2] 0 _ B3
  have HP : Hid (DoPost w bs dk x (.returned (.agg #[.slice f1 n1 c1, .slice f2 n2 c2])) (w3.setCells (w.heap.size + 1 + 1) 0 [.slice f1 n1 c1, .slice f2 n2 c2])) := ⟨_, _, rfl, IZ, BZ⟩
  clear IZ BZ I3 B3 kz cT
  go_wp2
  exact bodyPost_ret (res_cell_mid Tryz.results61 _ _ (w.heap.size + 1 + 1) [.slice f1 n1 c1, .slice f2 n2 c2] _ rfl p1.cells Tryz.underlying26 rfl (by kernel_rfl)) rfl (unhide HP)

set_option maxRecDepth 100000 in
set_option maxHeartbeats 4000000 in
theorem specDo_any (x : Ev) (fa : Option Addr) (fc : Nat) (bs : List Bk) (da : Option Addr) (dc : Nat) (dk : List Int) (w : World) (h : SAt w fa bs da dk) (hm : bs.length ≤ 1048576) (hp : ∀ b ∈ bs, b.ps.length ≤ 1048576) (hm2 : dk.length ≤ 1048576) :
    Calls Tryz.prog 60 #[.agg #[.slice fa bs.length fc, .slice da dk.length dc], .agg #[.int .i64 x.k, .int .i64 x.a, .int .i64 x.b, .int .i64 x.c, .bool x.t]] w fun e w' => DoPost w bs dk x e w' := by
  have B1 : Below w.heap.size w (((w.alloc (.cells #[.slice fa bs.length fc, .slice da dk.length dc] 26)).alloc (.cells #[.int .i64 x.k, .int .i64 x.a, .int .i64 x.b, .int .i64 x.c, .bool x.t] 62)).alloc (.cells #[.slice none 0 0, .slice none 0 0] 26)) := (((Below.refl _ _).alloc (Nat.le_refl _) _).alloc (by simp) _).alloc (by simp; omega) _
  have cS := ((store_box w (.slice fa bs.length fc) (.slice da dk.length dc)).alloc (by simp) (.cells #[.int .i64 x.k, .int .i64 x.a, .int .i64 x.b, .int .i64 x.c, .bool x.t] 62)).alloc (by simp; omega) (.cells #[.slice none 0 0, .slice none 0 0] 26)
  have cE := (CsAt.new (w.alloc (.cells #[.slice fa bs.length fc, .slice da dk.length dc] 26)) [.int .i64 x.k, .int .i64 x.a, .int .i64 x.b, .int .i64 x.c, .bool x.t] 62).alloc (by simp) (.cells #[.slice none 0 0, .slice none 0 0] 26)
  rw [World.size_alloc] at cE
  have cR := store_box ((w.alloc (.cells #[.slice fa bs.length fc, .slice da dk.length dc] 26)).alloc (.cells #[.int .i64 x.k, .int .i64 x.a, .int .i64 x.b, .int .i64 x.c, .bool x.t] 62)) (.slice none 0 0) (.slice none 0 0)
  rw [World.size_alloc, World.size_alloc] at cR
  have s0 : w.heap.size + 3 ≤ ((((w.alloc (.cells #[.slice fa bs.length fc, .slice da dk.length dc] 26)).alloc (.cells #[.int .i64 x.k, .int .i64 x.a, .int .i64 x.b, .int .i64 x.c, .bool x.t] 62)).alloc (.cells #[.slice none 0 0, .slice none 0 0] 26))).heap.size := by simp
  have HA1 := hide (h.below B1)
  have HSS := hide (show (Tryz.prog.info? 26).map (·.size) = some 2 by kernel_rfl)
  have HSE := hide (show (Tryz.prog.info? 62).map (·.size) = some 5 by kernel_rfl)
  clear h
  have HOK := hide (specOk_st fa fc bs da dc dk _ (unhide HA1) hm hp hm2)
  have x0 := cS.cell 0 _ rfl
  have x1 := cS.cell 1 _ rfl
  go_enter Tryz.func60, Tryz.ntmps60
  go_wp2_with fail
  generalize (((w.alloc (.cells #[.slice fa bs.length fc, .slice da dk.length dc] 26)).alloc (.cells #[.int .i64 x.k, .int .i64 x.a, .int .i64 x.b, .int .i64 x.c, .bool x.t] 62)).alloc (.cells #[.slice none 0 0, .slice none 0 0] 26)) = w1 at *
  refine (unhide HOK).mono ?_
  rintro e w2 ⟨rfl, b2⟩
  have q2 := b2.size
  replace cS := cS.below b2 (by omega)
  replace cE := cE.below b2 (by omega)
  replace cR := cR.below b2 (by omega)
  have B2 := B1.trans (b2.mono B1.size)
  have HA2 := hide ((unhide HA1).below b2)
  clear x0 x1 B1 b2 HOK HA1
  cases hst : stB bs dk
  · have d0 := cR.cell 0 _ rfl
    have d1 := cR.cell 1 _ rfl
    have f0 := cR.frozen 0 (by simp)
    have f1' := cR.frozen 1 (by simp)
    have p1 := cR.put [.slice none 0 0, .slice none 0 0] rfl
    have BZ := below_setCells (w.heap.size + 1 + 1) (by omega) [.slice none 0 0, .slice none 0 0] 0 _ B2
    have HP : Hid (DoPost w bs dk x (.returned (.agg #[.slice none 0 0, .slice none 0 0])) (w2.setCells (w.heap.size + 1 + 1) 0 [.slice none 0 0, .slice none 0 0])) := ⟨_, _, rfl, .inl ⟨hst, rfl, rfl⟩, BZ⟩
    clear BZ B2 hst cS cE cR
    go_wp2
    exact bodyPost_ret (res_cell_mid Tryz.results60 _ _ (w.heap.size + 1 + 1) [.slice none 0 0, .slice none 0 0] _ rfl p1.cells Tryz.underlying26 rfl (by kernel_rfl)) rfl (unhide HP)
  obtain ⟨hok, h6⟩ := st_parts hst
  have h4 := ok_len hok
  have hF := ok_fours hok
  obtain ⟨fb, fo, rfl, hf1⟩ := fsome (unhide HA2).fs h4
  obtain ⟨db, dof, rfl, hd1⟩ := dsome (unhide HA2).ds h6
  rw [h4, h6] at cS
  have hdl : db < w2.heap.size := by have := Fl.cell_lt (isC_at hd1 0 (by omega)); simpa using this
  have bd : Below w2.heap.size w2 w2.drew := (Below.refl _ _).drew
  have HCP := hide (l11Copy_any fb fo fc db dof dc bs hF h4 dk h6 w2.drew (fun i hi => (hf1 i hi).below bd) (rangeAt_below hd1 bd hdl))
  have HHX := hide (fun lo g d c1 c2 G w' (hSt : St w' lo g d G bs dk) => happen_x lo g d c1 c2 G bs dk x.k x.a x.b x.c x.t w' hSt hok)
  have hst' := hide hst
  have h46 := hide (And.intro h4 h6)
  clear hf1 hd1 HA2 hst h4 h6 hF bd hdl
  go_upto_region 3 with fail
  refine wp_region_noPanic ?_
  refine wp_region_held_drew (S := fun w' => Kept [w.heap.size + 1 + 1] w2 w') (by kernel_rfl) (Kept.refl _ _).drew (fun hHeld => ?_)
  replace cR := OrdL.ckept cR (L := []) (Kept.refl [] w2).drew (CsAt.lt cR (by first | (simp; done) | assumption)) (by simp)
  generalize w2.drew = y0 at *
  have z0 := hHeld.size
  refine takeL 0 (.agg #[.slice (some ⟨fb, fo, none⟩) 4 fc, .slice (some ⟨db, dof, none⟩) 6 dc]) rfl (by kernel_rfl) (by kernel_rfl) (by kernel_rfl) (fun _ _ _ h => h) (yieldsIf_load_mid rfl 26 _ rfl w.heap.size 0 rfl [.slice (some ⟨fb, fo, none⟩) 4 fc, .slice (some ⟨db, dof, none⟩) 6 dc] _ (fun _ h => (csAt_kept cS h (by omega) (by simp; omega)).cells) Tryz.underlying26 rfl (unhide HSS)) hHeld ?_
  try simp only [Act.put, List.setIfInBounds_toArray, List.set_cons_zero, List.set_cons_succ]
  refine takeL 2 (.agg #[.int .i64 x.k, .int .i64 x.a, .int .i64 x.b, .int .i64 x.c, .bool x.t]) rfl (by kernel_rfl) (by kernel_rfl) (by kernel_rfl) (fun _ _ _ h => h) (yieldsIf_load_mid rfl 62 _ rfl (w.heap.size + 1) 0 rfl [.int .i64 x.k, .int .i64 x.a, .int .i64 x.b, .int .i64 x.c, .bool x.t] _ (fun _ h => (csAt_kept cE h (by omega) (by first | (simp; done) | (simp; omega))).cells) Tryz.underlying62 rfl (unhide HSE)) hHeld ?_
  try simp only [Act.put, List.setIfInBounds_toArray, List.set_cons_zero, List.set_cons_succ]
  refine oneL 1 rfl (by kernel_rfl) rfl (fun K hK => ?_)
  go_simp
  refine (unhide HCP).mono ?_
  rintro e y1 ⟨g, G, d, c1, c2, rfl, o4, b⟩
  go_wp2_with fail
  replace cR := CsAt.below cR b (CsAt.lt cR (by simp))
  refine hK.out _ _ (hHeld.trans (Kept.of b)) (fun hHeld => ?_)
  clear hK K
  try simp only [Act.put, List.setIfInBounds_toArray, List.set_cons_zero, List.set_cons_succ]
  have z1 := b.size
  clear b
  refine oneL 3 rfl (by kernel_rfl) rfl (fun K hK => ?_)
  have hSt : St y1 y0.heap.size g d G bs dk := ⟨by have := o4.own; rwa [(unhide h46).1] at this, o4.ds, o4.dlo, o4.dhi, o4.dne, (unhide h46).2⟩
  have hlo : ∀ z ∈ d :: g :: G, y0.heap.size ≤ z := fun z hz => by rcases List.mem_cons.1 hz with rfl | hz; exact o4.dlo; exact o4.own.lo z hz
  go_simp
  refine (unhide HHX _ _ _ _ _ _ _ hSt).mono ?_
  rintro e y2 ⟨rfl, hokP, hS5, k5⟩
  go_wp2_with fail
  have S5 : OwnS y2 y0.heap.size g G d (doP bs dk x).1 (doP bs dk x).2 := ⟨by rw [show (doP bs dk x).1.length = 4 from ok_len hokP]; exact hS5.own, hS5.disk, hS5.dlo, hS5.dhi, hS5.dn⟩
  have I : InT y2 y0.heap.size y2.heap.size (.slice (some ⟨g, 0, none⟩) 4 c1) (.slice (some ⟨d, 0, none⟩) 6 c2) true (doP bs dk x).1 (doP bs dk x).2 := .inr ⟨rfl, g, G, d, c1, c2, rfl, rfl, S5, fun z hz => ⟨hlo z hz, by rcases List.mem_cons.1 hz with rfl | hz; exact hS5.dhi; exact hS5.own.hi z hz⟩, ok_fours hokP, ok_len hokP, hS5.six⟩
  replace cR := csAt_kept cR k5 (CsAt.lt cR (by simp)) (fun hm => by have := hlo _ hm; omega)
  refine hK.out _ _ (hHeld.then k5 (fun z hz => .inr (by have := hlo z hz; omega))) (fun hHeld => ?_)
  clear hK K
  try simp only [Act.put, List.setIfInBounds_toArray, List.set_cons_zero, List.set_cons_succ]
  have z2 := k5.size
  clear hSt o4 S5 hS5 k5 hokP
  refine oneL 4 rfl (by kernel_rfl) rfl (fun K hK => ?_)
  have pcR := cR.put [.slice (some ⟨g, 0, none⟩) 4 c1, .slice (some ⟨d, 0, none⟩) 6 c2] rfl
  have kz := OrdL.kcells y2 (w.heap.size + 1 + 1) 0 [.slice (some ⟨g, 0, none⟩) 4 c1, .slice (some ⟨d, 0, none⟩) 6 c2]
  refine wp_store_mid 26 _ _ rfl (w.heap.size + 1 + 1) 0 [.slice (some ⟨g, 0, none⟩) 4 c1, .slice (some ⟨d, 0, none⟩) 6 c2].toArray rfl rfl cR.free (unhide HSS) (by kernel_rfl) ?_
  refine hK.out _ _ (hHeld.then kz (fun y hy => by simp at hy; subst hy; first | (left; simp; done) | (right; omega))) (fun hHeld => ?_)
  clear hK K
  try simp only [Act.put, List.setIfInBounds_toArray, List.set_cons_zero, List.set_cons_succ]
  replace I := I.only (OnlyG.kept kz) (fun z hz => .inl (by simp at hz; omega))
  have zk := kz.size
  clear cR kz
  generalize y2.setCells (w.heap.size + 1 + 1) 0 [.slice (some ⟨g, 0, none⟩) 4 c1, .slice (some ⟨d, 0, none⟩) 6 c2] = y3 at *
  have cR := pcR
  clear pcR
  refine wpAnyH_done (by kernel_rfl) ?_ _
  refine NoPanic.normal ?_
  have IZ := InT.mono (lo' := w.heap.size) (hi' := y3.heap.size) I (by omega) (by have := hHeld.size; omega)
  have BZ := B2.trans (Kept.below hHeld (B := w.heap.size) (by simp; omega) (by omega))
  have HP : Hid (DoPost w bs dk x (.returned (.agg #[.slice (some ⟨g, 0, none⟩) 4 c1, .slice (some ⟨d, 0, none⟩) 6 c2])) y3) := ⟨_, _, rfl, by rw [unhide hst']; exact IZ, BZ⟩
  clear IZ BZ I hHeld
  go_wp2
  exact bodyPost_ret (res_cell_mid Tryz.results60 _ _ (w.heap.size + 1 + 1) [.slice (some ⟨g, 0, none⟩) 4 c1, .slice (some ⟨d, 0, none⟩) 6 c2] _ rfl cR.cells Tryz.underlying26 rfl (by kernel_rfl)) rfl (unhide HP)
end Go.Proofs.YtogfelpdgeionaaGreat.PdD
