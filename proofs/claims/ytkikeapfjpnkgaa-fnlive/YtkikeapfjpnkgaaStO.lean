/-
  Texts that belong together, one behind the other: StF, StG.
-/
import Derived.Test.YtkikeapfjpnkgaaStM

/-
  The program's stores as they are kept: the whole store, if it is ok.
-/
namespace Go.Proofs.Ytkikeapfjpnkgaa.StF
open Go.ChangeShapes Go.WideShapes Go.ChangeAt Go.RowKit Go.Shelf OkA Big Fl ImplB ImplF ImplS _root_.Go.Proofs.Ytkikeapfjpnkgaa.Own ImplT ImplU SpecA SpecB SpecC SpecD SpecW SpecF SpecG SpecH Ok2 Pl FindP ImplO SpecX SpecO ImplQ ImplW ImplL FindN FindL FindV FindQ Kp StA MpA StB StC StD StE
set_option linter.unusedVariables false
set_option linter.unusedSimpArgs false
attribute [local go_sem ↓] Go.wp_at_zero Go.wp_at_succ

def zSk : List Value := fsC zFs ++ .map none :: isC zDk6
theorem len_zsk : zSk.length = 91 := by kernel_rfl
theorem zero_sk : (Try.prog.info? 95).bind (·.zero) = some (.agg zSk.toArray) := by kernel_rfl
theorem size_zsk : (Try.prog.info? 95).map (·.size) = some zSk.length := by rw [len_zsk]; kernel_rfl
theorem size_zska : (Try.prog.info? 95).map (·.size) = some zSk.toArray.size := by rw [List.size_toArray, len_zsk]; kernel_rfl
theorem one_zsk : ∀ v ∈ zSk, v.oneCell' = true := fun v hv => by
  rcases List.mem_append.1 hv with h | h
  · exact one_fsC _ v h
  · rcases List.mem_cons.1 h with rfl | h
    · rfl
    · exact one_isC _ v h
theorem built_zsk : Try.prog.built 95 [] = some zSk.toArray := by kernel_rfl
theorem fill_step (place : Nat → Option (Nat × Nat)) (cs : Array Value) (i : Nat) (v : Value) (rest : List (Nat × Value)) (off n : Nat) (hp : place i = some (off, n)) (hv : v.cells.size = n) (hle : off + n ≤ cs.size) :
    Instr.fill place cs ((i, v) :: rest) = Instr.fill place (cs.toList.take off ++ v.cells.toList ++ cs.toList.drop (off + n)).toArray rest := by
  have e := foldl_fill v.cells.toList 0 off cs (by rw [Array.length_toList]; omega)
  simp only [Nat.add_zero, Array.toArray_toList, Array.length_toList, hv] at e
  simp only [Instr.fill, hp]
  rw [if_neg (by simp; omega)]
  congr 1
  apply Array.ext'
  rw [e]
theorem fill_three (x y : List Value) (v : Value) (hv : v.cells = #[v]) (n m : Nat) (hx : x.length = n) (hy : y.length = m) (z : Array Value) (hz : z.size = n + 1 + m) (place : Nat → Option (Nat × Nat)) (p0 : place 0 = some (0, n)) (p1 : place 1 = some (n, 1)) (p2 : place 2 = some (n + 1, m)) :
    Instr.fill place z [(0, .agg x.toArray), (1, v), (2, .agg y.toArray)] = some (x ++ v :: y).toArray := by
  have c0 : (Value.agg x.toArray).cells = x.toArray := rfl
  have c2 : (Value.agg y.toArray).cells = y.toArray := rfl
  rw [fill_step place z 0 _ _ 0 n p0 (by rw [c0, List.size_toArray, hx]) (by omega)]
  rw [fill_step place _ 1 _ _ n 1 p1 (by rw [hv]; rfl) (by rw [c0]; simp; omega)]
  rw [fill_step place _ 2 _ _ (n + 1) m p2 (by rw [c2, List.size_toArray, hy]) (by rw [c0, hv]; simp; omega)]
  rw [c0, c2, hv]
  simp only [Instr.fill]
  congr 2
  have hd : ∀ k, n ≤ k → (x ++ z.toList.drop n).drop k = z.toList.drop k := fun k hk => by
    rw [List.drop_append, List.drop_eq_nil_of_le (by omega), List.nil_append, List.drop_drop, hx]
    congr 1; omega
  have ht : (x ++ z.toList.drop n).take n = x := by rw [List.take_append_of_le_length (by omega), List.take_of_length_le (by omega)]
  simp only [List.take_zero, List.nil_append, Nat.zero_add]
  rw [ht, hd _ (by omega)]
  rw [List.take_append_of_le_length (by simp; omega), List.take_of_length_le (by simp; omega), List.drop_append, List.drop_eq_nil_of_le (by simp; omega), List.nil_append, List.drop_eq_nil_of_le (by simp; omega)]
  simp
theorem places_sk' : placesOf Try.prog (Try.prog.underlying 95) = some [(0, 84), (84, 1), (85, 6)] := by kernel_rfl
theorem places_sk (fs : Array Field) (h : Try.prog.underlying 95 = some (.struct fs)) : fs.toList.mapM (fun f => (Try.prog.info? f.type).map fun i => (f.offset, i.size)) = some [(0, 84), (84, 1), (85, 6)] := by
  have e := places_sk'
  rw [h] at e
  exact e
theorem fill_sk (ks : List Bk) (mb : Nat) (dk : List Int) (h4 : ks.length = 4) (hF : Fours ks) (h6 : dk.length = 6) : Try.prog.built 95 [(0, .agg (fsC ks).toArray), (1, .map (some mb)), (2, .agg (isC dk).toArray)] = some (skC ks mb dk).toArray := by
  have h : ∀ (place : Nat → Option (Nat × Nat)), place 0 = some (0, 84) → place 1 = some (84, 1) → place 2 = some (85, 6) → Instr.fill place zSk.toArray [(0, .agg (fsC ks).toArray), (1, .map (some mb)), (2, .agg (isC dk).toArray)] = some (skC ks mb dk).toArray := fun place p0 p1 p2 =>
    fill_three (fsC ks) (isC dk) _ rfl 84 6 (by rw [len_fsC ks hF, h4]) (by rw [len_isC, h6]) _ (by rw [List.size_toArray, len_zsk]) place p0 p1 p2
  have hi : ∃ it, Try.prog.info? 95 = some it ∧ it.zero = some (.agg zSk.toArray) := by
    cases hq : Try.prog.info? 95 with
    | none => have := zero_sk; rw [hq] at this; cases this
    | some it => have := zero_sk; rw [hq] at this; exact ⟨it, rfl, this⟩
  obtain ⟨it, h1, h2⟩ := hi
  unfold Program.built
  rw [h1, Try.underlying95]
  have hp := places_sk _ Try.underlying95
  simp only [h2]
  rw [hp]
  exact h _ rfl rfl rfl
section
variable {P : Program} {o : Oper} {a : Act} {w : World} {Q : Exit → Act → World → Prop} {K : Act → World → Prop}
theorem wp_alloc_big (T : TypeId) (ho : o.op = .alloc T) (cs : Array Value) (hz : (P.info? T).bind (·.zero) = some (.agg cs))
    (h : K (a.put o.dst (.pointer (some ⟨w.heap.size, 0, none⟩))) (w.alloc (.cells cs T))) : o.wp P a w K Q := by
  cases hi : P.info? T with
  | none => simp [hi] at hz
  | some i =>
    have hz' : i.zero = some (.agg cs) := by simpa [hi] using hz
    unfold Oper.wp execOp
    simp only [ho]
    have hr : (Instr.alloc T true (.tuple #[])).run P w = .ok (.pointer (some ⟨w.heap.size, 0, none⟩)) (w.alloc (.cells cs T)) := by
      simp [Instr.alloc, zeroValue, typeInfo, hi, hz', newVar, newRow, Value.cells, go_sem]
    simp only [Sem.run_bind, hr, Result.andThen_ok]
    exact h
theorem run_build_two {T : TypeId} {x y : Operand} {vx vy : Value} {cs : Array Value} (hb : P.built T [(0, vx), (1, vy)] = some cs) (ho : o.op = .build T #[(0, x), (1, y)]) (hx : a.eval x = vx) (hy : a.eval y = vy) : (execOp a.eval o).run P w = .ok (.value (.agg cs)) w := by
  have hp : ((#[(0, x), (1, y)] : Array (Nat × Operand)).map fun (i, x) => (i, a.eval x)).toList = [(0, vx), (1, vy)] := by simp [hx, hy]
  have hc : P.built T ((#[(0, x), (1, y)] : Array (Nat × Operand)).map fun (i, x) => (i, a.eval x)).toList = some cs := by rw [hp, hb]
  unfold execOp
  simp only [ho, Sem.run_bind, run_build w T _ cs hc, Result.andThen_ok]
  rfl
theorem run_build_three {T : TypeId} {x y z : Operand} {vx vy vz : Value} {cs : Array Value} (hb : P.built T [(0, vx), (1, vy), (2, vz)] = some cs) (ho : o.op = .build T #[(0, x), (1, y), (2, z)]) (hx : a.eval x = vx) (hy : a.eval y = vy) (hz : a.eval z = vz) : (execOp a.eval o).run P w = .ok (.value (.agg cs)) w := by
  have hp : ((#[(0, x), (1, y), (2, z)] : Array (Nat × Operand)).map fun (i, x) => (i, a.eval x)).toList = [(0, vx), (1, vy), (2, vz)] := by simp [hx, hy, hz]
  have hc : P.built T ((#[(0, x), (1, y), (2, z)] : Array (Nat × Operand)).map fun (i, x) => (i, a.eval x)).toList = some cs := by rw [hp, hb]
  unfold execOp
  simp only [ho, Sem.run_bind, run_build w T _ cs hc, Result.andThen_ok]
  rfl
theorem keptC (w : World) (b o : Nat) (vs : List Value) : Kept [b] w (w.setCells b o vs) := (Kept.refl [b] w).setCells (.inl (by simp)) o vs
end
/-- The store is ok, as the program tells it. -/
def stI (bs : List Bk) (dk : List Int) : Bool := ordR bs && dkB dk && hcB (mpF bs) dk
/-- What is kept of a store that is not ok: nothing, or one whose map lies there. -/
def SkF (sk : List Value) (w' : World) : Prop := sk = zSk ∨ ∃ (ks : List Bk) (mb : Nat) (ds : List Int), sk = skC ks mb ds ∧ ks.length = 4 ∧ Fours ks ∧ ds.length = 6 ∧ MapAt w' mb 6 (mpF ks)
def SkPost (w : World) (bs : List Bk) (dk : List Int) (e : Ending) (w' : World) : Prop :=
  ∃ sk : List Value, e = .returned (.tuple #[.agg sk.toArray, .bool (stI bs dk)]) ∧ sk.length = 91 ∧ (∀ v ∈ sk, v.oneCell' = true) ∧ (stI bs dk = true → ∃ mb, sk = skC bs mb dk ∧ okB bs = true ∧ dk.length = 6 ∧ MapAt w' mb 6 (mpF bs)) ∧ Below w.heap.size w w' ∧ SkF sk w'
set_option maxRecDepth 100000 in
set_option maxHeartbeats 2000000 in
theorem storeOf_any (fa : Option Addr) (fc : Nat) (bs : List Bk) (da : Option Addr) (dc : Nat) (dk : List Int) (w : World) (hf : FsAt w fa bs) (hd : DkAt w da dk) (hm : bs.length ≤ 9223372036854775807) (hm2 : dk.length ≤ 9223372036854775807) :
    Calls Try.prog 70 #[.agg #[.slice fa bs.length fc, .slice da dk.length dc]] w fun e w' => SkPost w bs dk e w' := by
  obtain ⟨zf, hz, hz84⟩ := zrow
  have HZ := hide hz
  clear hz
  have cS := (store_box w (.slice fa bs.length fc) (.slice da dk.length dc)).alloc (by simp) (.cells zSk.toArray 95)
  have cR := CsAt.new (w.alloc (.cells #[.slice fa bs.length fc, .slice da dk.length dc] 54)) zSk 95
  rw [World.size_alloc] at cR
  have B0 : Below w.heap.size w ((w.alloc (.cells #[.slice fa bs.length fc, .slice da dk.length dc] 54)).alloc (.cells zSk.toArray 95)) := ((Below.refl _ _).alloc (Nat.le_refl _) _).alloc (by simp) _
  have s0 : ((w.alloc (.cells #[.slice fa bs.length fc, .slice da dk.length dc] 54)).alloc (.cells zSk.toArray 95)).heap.size = w.heap.size + 2 := by simp
  have x0 := cS.cell 0 _ rfl
  have HF := hide (hf.below B0)
  have HD := hide (hd.below B0)
  clear hf hd
  have HST : Hid (stI bs dk = (ordR bs && dkB dk && hcB (mpF bs) dk)) := rfl
  have HOR : Hid (ordR bs = (okB bs && ordB bs)) := rfl
  go_enter Try.func70, Try.ntmps70
  go_wp2_with (refine wpList_alloc_big rfl 95 rfl zSk.toArray zero_sk ?_)
  generalize (w.alloc (.cells #[.slice fa bs.length fc, .slice da dk.length dc] 54)).alloc (.cells zSk.toArray 95) = w0 at *
  refine (ofz_any fa fc bs _ (unhide HF) hm).mono ?_
  rintro e w1 ⟨ks, rfl, hk4, hkF, hke, b1⟩
  have hsz : zf.size = (fsC ks).toArray.size := by rw [hz84, List.size_toArray, len_fsC _ hkF, hk4]
  have HSF := hide (size_fsl hkF hk4)
  have q1 := b1.size
  have bA : Below w1.heap.size w1 (w1.alloc (.cells (fsC ks).toArray 75)) := (Below.refl _ _).alloc (Nat.le_refl _) _
  have cS1 := (cS.below b1 (by omega)).below bA (by omega)
  have cR1 := (cR.below b1 (by omega)).below bA (by omega)
  have cF1 := CsAt.new w1 (fsC ks) 75
  have B1 := (B0.trans (b1.mono B0.size)).trans (bA.mono (by omega))
  have s1 : (w1.alloc (.cells (fsC ks).toArray 75)).heap.size = w1.heap.size + 1 := by simp
  have HD1 := hide (((unhide HD).below b1).below bA)
  have x1 := cS1.cell 1 _ rfl
  clear cS cR B0 x0 HF HD b1 bA
  go_wp2_with (first | (refine wpList_alloc_big rfl 75 rfl zf (unhide HZ) ?_) | (refine wpList_store_new rfl 75 _ _ rfl w1 zf (fsC ks).toArray rfl rfl rfl (size_fsa hkF hk4) hsz (one_fs ks) ?_))
  generalize w1.alloc (.cells (fsC ks).toArray 75) = v1 at *
  generalize w1.heap.size = F at *
  refine (diskOf_any da dc dk _ (unhide HD1) hm2).mono ?_
  rintro e w2 ⟨ds, rfl, hd6, hde, b2⟩
  have HSD := hide (size_dk hd6)
  have hszd : (isC zDk6).toArray.size = (isC ds).toArray.size := by rw [List.size_toArray, List.size_toArray, len_isC, len_isC, hd6]; rfl
  have q2 := b2.size
  have bA : Below w2.heap.size w2 (w2.alloc (.cells (isC ds).toArray 93)) := (Below.refl _ _).alloc (Nat.le_refl _) _
  have cR2 := (cR1.below b2 (by omega)).below bA (by omega)
  have cF2 := (cF1.below b2 (by omega)).below bA (by omega)
  have cD2 := CsAt.new w2 (isC ds) 93
  have B2 := (B1.trans (b2.mono B1.size)).trans (bA.mono (by omega))
  have s2 : (w2.alloc (.cells (isC ds).toArray 93)).heap.size = w2.heap.size + 1 := by simp
  have hFl : F < (w2.alloc (.cells (isC ds).toArray 93)).heap.size := by omega
  have hlo : w.heap.size + 2 ≤ F := by omega
  have hFD : F < w2.heap.size := by omega
  clear cS1 cR1 cF1 B1 x1 HD1 b2 bA s1
  have HEND : Hid (stI bs dk = false → ∀ w', CsAt w' (w.heap.size + 1) zSk → Below w.heap.size w w' → SkPost w bs dk (.returned (.tuple #[.agg zSk.toArray, .bool false])) w') := fun h w' hc hb => ⟨zSk, by rw [h], len_zsk, one_zsk, (fun h' => by rw [h] at h'; cases h'), hb, .inl rfl⟩
  have rF := cF2.cells
  have tR := cR2.free
  have p1 := cR2.put zSk rfl
  cases hs : okB bs
  · have HE : Hid (stI bs dk = false) := by show _ = _; rw [unhide HST, unhide HOR, hs]; rfl
    have pB := below_setCells (w.heap.size + 1) (by omega) zSk 0 _ B2
    have HP := hide (unhide HEND (unhide HE) _ p1 pB)
    clear hs hke hde
    go_wp2_with (first | (refine wpList_alloc_big rfl 93 rfl (isC zDk6).toArray zero_dk ?_) | (refine wpList_store_new rfl 93 _ _ rfl w2 (isC zDk6).toArray (isC ds).toArray rfl rfl rfl (size_dka hd6) hszd (all_oneCell_toArray (one_isC _)) ?_) | (refine wpList_build_big rfl 95 _ rfl [] rfl zSk.toArray built_zsk ?_) | (refine wpList_store_mid rfl 95 _ _ rfl (w.heap.size + 1) 0 zSk.toArray rfl rfl tR size_zska (all_oneCell_toArray one_zsk) ?_) | (refine bodyPost_ret (res_cell_tmp Try.results70 _ _ (w.heap.size + 1) zSk _ rfl p1.cells Try.underlying95 rfl size_zsk) rfl (unhide ?_)))
  obtain rfl := hke hs
  cases hd : dkB dk
  · have HE : Hid (stI ks dk = false) := by show _ = _; rw [unhide HST, hd]; simp
    have pB := below_setCells (w.heap.size + 1) (by omega) zSk 0 _ B2
    have HP := hide (unhide HEND (unhide HE) _ p1 pB)
    clear hs hke hde
    go_wp2_with (first | (refine wpList_alloc_big rfl 93 rfl (isC zDk6).toArray zero_dk ?_) | (refine wpList_store_new rfl 93 _ _ rfl w2 (isC zDk6).toArray (isC ds).toArray rfl rfl rfl (size_dka hd6) hszd (all_oneCell_toArray (one_isC _)) ?_) | (refine wpList_build_big rfl 95 _ rfl [] rfl zSk.toArray built_zsk ?_) | (refine wpList_store_mid rfl 95 _ _ rfl (w.heap.size + 1) 0 zSk.toArray rfl rfl tR size_zska (all_oneCell_toArray one_zsk) ?_) | (refine bodyPost_ret (res_cell_tmp Try.results70 _ _ (w.heap.size + 1) zSk _ rfl p1.cells Try.underlying95 rfl size_zsk) rfl (unhide ?_)))
  obtain rfl := hde hd
  have HIO := hide (fun (w' : World) => inOrder_any ks hk4 hkF w')
  have HEO : Hid (ordR ks = ordA ks) := by show _ = _; rw [unhide HOR, hs, ordA_ok hs]; rfl
  go_wp2_with (first | (refine wpList_alloc_big rfl 93 rfl (isC zDk6).toArray zero_dk ?_) | (refine wpList_store_new rfl 93 _ _ rfl w2 (isC zDk6).toArray (isC ds).toArray rfl rfl rfl (size_dka hd6) hszd (all_oneCell_toArray (one_isC _)) ?_) | (refine wpList_load_want 75 _ rfl rfl F 0 rfl (fsC ks) _ rF Try.underlying75 rfl (unhide HSF) ?_))
  generalize w2.alloc (.cells (isC ds).toArray 93) = v2 at *
  generalize w2.heap.size = D at *
  refine (unhide HIO _).mono ?_
  rintro e w3 ⟨rfl, b3⟩
  have q3 := b3.size
  have cR3 := cR2.below b3 (by omega)
  have cF3 := cF2.below b3 (by omega)
  have cD3 := cD2.below b3 (by omega)
  have B3 := B2.trans (b3.mono B2.size)
  clear cR2 cF2 cD2 B2 b3 rF tR p1 HIO
  have tR := cR3.free
  have p1 := cR3.put zSk rfl
  cases hx : ordA ks
  · have HE : Hid (stI ks ds = false) := by show _ = _; rw [unhide HST, unhide HEO, hx]; rfl
    have pB := below_setCells (w.heap.size + 1) (by omega) zSk 0 _ B3
    have HP := hide (unhide HEND (unhide HE) _ p1 pB)
    go_wp2_with (first | (refine wpList_build_big rfl 95 _ rfl [] rfl zSk.toArray built_zsk ?_) | (refine wpList_store_mid rfl 95 _ _ rfl (w.heap.size + 1) 0 zSk.toArray rfl rfl tR size_zska (all_oneCell_toArray one_zsk) ?_) | (refine bodyPost_ret (res_cell_tmp Try.results70 _ _ (w.heap.size + 1) zSk _ rfl p1.cells Try.underlying95 rfl size_zsk) rfl (unhide ?_)))
  have HE : Hid (stI ks ds = hcB (mpF ks) ds) := by show _ = _; rw [unhide HST, unhide HEO, hx, hd]; rfl
  have HLE := hide (fun (w' : World) => lastOfEach_any ks hk4 hkF w')
  have HHC := hide (fun (mb n : Nat) (w' : World) (h : MapAt w' mb n (mpF ks)) => hasClean_any ks hk4 hkF mb n (mpF ks) ds hd6 w' h)
  have HOKB := hide hs
  clear hs hke hde hd hx tR p1 HEND HST HOR HEO
  go_wp2
  refine wp_region_noPanic ?_
  refine wp_region_held_drew (S := fun w' => CsAt w' F (fsC ks) ∧ CsAt w' D (isC ds) ∧ CsAt w' (w.heap.size + 1) zSk ∧ Below w.heap.size w w' ∧ D < w'.heap.size) (by kernel_rfl) (⟨⟨fun j v hv => cF3.cells j v hv, fun j hj => cF3.free j hj⟩, ⟨fun j v hv => cD3.cells j v hv, fun j hj => cD3.free j hj⟩, ⟨fun j v hv => cR3.cells j v hv, fun j hj => cR3.free j hj⟩, B3.drew, by show D < w3.heap.size; omega⟩) (fun hHeld => ?_)
  refine takeL 0 (_) rfl (by kernel_rfl) (by kernel_rfl) (by kernel_rfl) (fun _ _ _ h => h) (yieldsIf_load_mid rfl 75 _ rfl F 0 rfl (fsC ks) _ (fun _ h => h.1.cells) Try.underlying75 rfl (unhide HSF)) hHeld ?_
  try simp only [Act.put, List.setIfInBounds_toArray, List.set_cons_zero, List.set_cons_succ]
  refine takeL 1 (_) rfl (by kernel_rfl) (by kernel_rfl) (by kernel_rfl) (fun _ _ _ h => h) (yieldsIf_load_mid rfl 75 _ rfl F 0 rfl (fsC ks) _ (fun _ h => h.1.cells) Try.underlying75 rfl (unhide HSF)) hHeld ?_
  try simp only [Act.put, List.setIfInBounds_toArray, List.set_cons_zero, List.set_cons_succ]
  refine takeL 3 (_) rfl (by kernel_rfl) (by kernel_rfl) (by kernel_rfl) (fun _ _ _ h => h) (yieldsIf_load_mid rfl 93 _ rfl D 0 rfl (isC ds) _ (fun _ h => h.2.1.cells) Try.underlying93 rfl (unhide HSD)) hHeld ?_
  try simp only [Act.put, List.setIfInBounds_toArray, List.set_cons_zero, List.set_cons_succ]
  clear cR3 cF3 cD3 B3
  refine twoL 2 5 rfl rfl (by kernel_rfl) rfl rfl (fun K hK => ?_) (fun K hK => ?_)
  · go_simp
    refine (unhide HLE _).mono ?_
    rintro e w5 ⟨mb, rfl, hmb, mM, b5⟩
    go_wp2_with fail
    have H5 : CsAt w5 F (fsC ks) ∧ CsAt w5 D (isC ds) ∧ CsAt w5 (w.heap.size + 1) zSk ∧ Below w.heap.size w w5 ∧ D < w5.heap.size := ⟨hHeld.1.below b5 (by have := hHeld.2.2.2.2; omega), hHeld.2.1.below b5 (by have := hHeld.2.2.2.2; omega), hHeld.2.2.1.below b5 (by have := hHeld.2.2.2.2; omega), hHeld.2.2.2.1.trans (b5.mono (by have := hHeld.2.2.2.2; omega)), by have := b5.size; have := hHeld.2.2.2.2; omega⟩
    refine hK.out _ _ H5 (fun hHeld => ?_)
    clear hK K
    try simp only [Act.put, List.setIfInBounds_toArray, List.set_cons_zero, List.set_cons_succ]
    have HSK := hide (size_sk (mb := mb) hk4 hkF hd6)
    have HSKA := hide (size_ska (mb := mb) hk4 hkF hd6)
    have HBU := hide (fill_sk ks mb ds hk4 hkF hd6)
    refine takeL 4 (.agg (skC ks mb ds).toArray) rfl (by kernel_rfl) (by kernel_rfl) (by kernel_rfl) (fun _ _ _ h => h) (Or.inl ⟨rfl, fun w9 _ => run_build_three (unhide HBU) rfl rfl rfl rfl⟩) hHeld ?_
    try simp only [Act.put, List.setIfInBounds_toArray, List.set_cons_zero, List.set_cons_succ]
    refine oneL 5 rfl (by kernel_rfl) rfl (fun K hK => ?_)
    refine wp_alloc_big 95 rfl zSk.toArray zero_sk ?_
    have bA : Below w5.heap.size w5 (w5.alloc (.cells zSk.toArray 95)) := (Below.refl _ _).alloc (Nat.le_refl _) _
    have H6 : CsAt (w5.alloc (.cells zSk.toArray 95)) F (fsC ks) ∧ CsAt (w5.alloc (.cells zSk.toArray 95)) D (isC ds) ∧ CsAt (w5.alloc (.cells zSk.toArray 95)) (w.heap.size + 1) zSk ∧ Below w.heap.size w (w5.alloc (.cells zSk.toArray 95)) ∧ D < (w5.alloc (.cells zSk.toArray 95)).heap.size := ⟨hHeld.1.below bA (by have := hHeld.2.2.2.2; omega), hHeld.2.1.below bA (by have := hHeld.2.2.2.2; omega), hHeld.2.2.1.below bA (by have := hHeld.2.2.2.2; omega), hHeld.2.2.2.1.trans (bA.mono (by have := hHeld.2.2.2.2; omega)), by have := bA.size; have := hHeld.2.2.2.2; omega⟩
    clear hHeld
    refine hK.out _ _ H6 (fun hHeld => ?_)
    clear hK K
    try simp only [Act.put, List.setIfInBounds_toArray, List.set_cons_zero, List.set_cons_succ]
    have cN := CsAt.new w5 zSk 95
    have mN := mM.below bA mM.lt
    have hD5 := H5.2.2.2.2
    have sN : w5.heap.size < (w5.alloc (.cells zSk.toArray 95)).heap.size := by simp
    have hmN := mM.lt
    generalize w5.alloc (.cells zSk.toArray 95) = w6 at *
    generalize hSB : w5.heap.size = SB at *
    have hne : mb ≠ SB := by omega
    have hne2 : mb ≠ w.heap.size + 1 := by have := hmb; omega
    have tK : w6.there SB 0 (skC ks mb ds).toArray.size := by rw [show (skC ks mb ds).toArray.size = 91 by rw [List.size_toArray, sk_len hk4 hkF hd6]]; have := cN.free; rwa [len_zsk] at this
    refine oneL 6 rfl (by kernel_rfl) rfl (fun K hK => ?_)
    refine wp_store_mid 95 _ _ rfl SB 0 (skC ks mb ds).toArray rfl rfl tK (unhide HSKA) (one_sk ks mb ds) ?_
    have kz := keptC w6 SB 0 (skC ks mb ds)
    have cK := cN.put (skC ks mb ds) (by rw [sk_len hk4 hkF hd6, len_zsk])
    have cR5 := hHeld.2.2.1.other (show w.heap.size + 1 ≠ SB by omega) 0 (skC ks mb ds)
    have B5 := below_setCells SB (show w.heap.size ≤ SB by omega) (skC ks mb ds) 0 _ hHeld.2.2.2.1
    have mM := mN.keptL kz (by simp; omega)
    have s7 : (w6.setCells SB 0 (skC ks mb ds)).heap.size = w6.heap.size := size_setCells _ _ _ _
    refine hK.out _ _ ⟨hHeld.1.other (show F ≠ SB by omega) _ _, hHeld.2.1.other (show D ≠ SB by omega) _ _, cR5, B5, by rw [s7]; omega⟩ (fun hHeld => ?_)
    clear hK K
    try simp only [Act.put, List.setIfInBounds_toArray, List.set_cons_zero, List.set_cons_succ]
    refine wpAnyH_done (by kernel_rfl) ?_ _
    refine NoPanic.normal ?_
    have sB7 : SB < (w6.setCells SB 0 (skC ks mb ds)).heap.size := by rw [s7]; omega
    have hmb7 : mb < (w6.setCells SB 0 (skC ks mb ds)).heap.size := mM.lt
    clear hHeld kz cN mN tK s7
    generalize w6.setCells SB 0 (skC ks mb ds) = w7 at *
    go_wp2
    refine wp_region_noPanic ?_
    refine wp_region_held_drew (S := fun w' => CsAt w' SB (skC ks mb ds)) (by kernel_rfl) (⟨fun j v hv => cK.cells j v hv, fun j hj => cK.free j hj⟩) (fun hHeld => ?_)
    refine takeL 0 (_) rfl (by kernel_rfl) (by kernel_rfl) (by kernel_rfl) (fun _ _ _ h => h) (yieldsIf_load_mid rfl 95 _ rfl SB 0 rfl (skC ks mb ds) _ (fun _ h => h.cells) Try.underlying95 rfl (unhide HSK)) hHeld ?_
    try simp only [Act.put, List.setIfInBounds_toArray, List.set_cons_zero, List.set_cons_succ]
    refine takeL 1 (_) rfl (by kernel_rfl) (by kernel_rfl) (by kernel_rfl) (fun _ _ _ h => h) (yieldsIf_load_mid rfl 95 _ rfl SB 0 rfl (skC ks mb ds) _ (fun _ h => h.cells) Try.underlying95 rfl (unhide HSK)) hHeld ?_
    try simp only [Act.put, List.setIfInBounds_toArray, List.set_cons_zero, List.set_cons_succ]
    refine oneL 2 rfl (by kernel_rfl) rfl (fun K hK => ?_)
    go_simp
    refine (unhide HHC mb 6 w7.drew mM).mono ?_
    rintro e wz ⟨rfl, bz⟩
    go_wp2_with fail
    refine hK.out _ _ (hHeld.below bz (by show _ < w7.heap.size; omega)) (fun hHeld => ?_)
    clear hK K
    try simp only [Act.put, List.setIfInBounds_toArray, List.set_cons_zero, List.set_cons_succ]
    have qz : w7.heap.size ≤ wz.heap.size := bz.size
    have cRz := (show CsAt w7.drew (w.heap.size + 1) zSk from ⟨fun j v hv => cR5.cells j v hv, fun j hj => cR5.free j hj⟩).below bz (by show _ < w7.heap.size; omega)
    have pz := cRz.put (skC ks mb ds) (by rw [sk_len hk4 hkF hd6, len_zsk])
    have tz : wz.there (w.heap.size + 1) 0 (skC ks mb ds).toArray.size := by rw [show (skC ks mb ds).toArray.size = 91 by rw [List.size_toArray, sk_len hk4 hkF hd6]]; have := cRz.free; rwa [len_zsk] at this
    have Bz := below_setCells (w.heap.size + 1) (show w.heap.size ≤ w.heap.size + 1 by omega) (skC ks mb ds) 0 _ (B5.drew.trans (bz.mono B5.size))
    have mz := ((show MapAt w7.drew mb 6 (mpF ks) from mM).below bz (by have := mM.lt; exact this)).keptL (keptC wz (w.heap.size + 1) 0 (skC ks mb ds)) (by simp; omega)
    refine oneL 3 rfl (by kernel_rfl) rfl (fun K hK => ?_)
    refine wp_store_mid 95 _ _ rfl (w.heap.size + 1) 0 (skC ks mb ds).toArray rfl rfl tz (unhide HSKA) (one_sk ks mb ds) ?_
    refine hK.out _ _ (hHeld.other (show SB ≠ w.heap.size + 1 by omega) _ _) (fun hHeld => ?_)
    clear hK K
    try simp only [Act.put, List.setIfInBounds_toArray, List.set_cons_zero, List.set_cons_succ]
    refine takeL 4 (.bool (hcB (mpF ks) ds)) rfl (by kernel_rfl) (by kernel_rfl) (by kernel_rfl) (fun _ _ _ h => h) (Or.inl ⟨rfl, fun _ _ => rfl⟩) hHeld ?_
    try simp only [Act.put, List.setIfInBounds_toArray, List.set_cons_zero, List.set_cons_succ]
    refine wpAnyH_done (by kernel_rfl) ?_ _
    refine NoPanic.normal ?_
    go_wp2_with fail
    refine bodyPost_ret (res_cell_tmp Try.results70 _ _ (w.heap.size + 1) (skC ks mb ds) _ rfl pz.cells Try.underlying95 rfl (unhide HSK)) rfl ?_
    exact ⟨skC ks mb ds, by rw [unhide HE]; rfl, sk_len hk4 hkF hd6, one_skv ks mb ds, (fun _ => ⟨mb, rfl, unhide HOKB, hd6, mz⟩), Bz, .inr ⟨ks, mb, ds, rfl, hk4, hkF, hd6, mz⟩⟩
  · refine wp_alloc_big 95 rfl zSk.toArray zero_sk ?_
    have bA : Below w3.drew.heap.size w3.drew (w3.drew.alloc (.cells zSk.toArray 95)) := (Below.refl _ _).alloc (Nat.le_refl _) _
    have H6 : CsAt (w3.drew.alloc (.cells zSk.toArray 95)) F (fsC ks) ∧ CsAt (w3.drew.alloc (.cells zSk.toArray 95)) D (isC ds) ∧ CsAt (w3.drew.alloc (.cells zSk.toArray 95)) (w.heap.size + 1) zSk ∧ Below w.heap.size w (w3.drew.alloc (.cells zSk.toArray 95)) ∧ D < (w3.drew.alloc (.cells zSk.toArray 95)).heap.size := ⟨hHeld.1.below bA (by have := hHeld.2.2.2.2; omega), hHeld.2.1.below bA (by have := hHeld.2.2.2.2; omega), hHeld.2.2.1.below bA (by have := hHeld.2.2.2.2; omega), hHeld.2.2.2.1.trans (bA.mono (by have := hHeld.2.2.2.2; omega)), by have := bA.size; have := hHeld.2.2.2.2; omega⟩
    clear hHeld
    refine hK.out _ _ H6 (fun hHeld => ?_)
    clear hK K
    try simp only [Act.put, List.setIfInBounds_toArray, List.set_cons_zero, List.set_cons_succ]
    have cN0 := CsAt.new w3.drew zSk 95
    have sN0 : w3.drew.heap.size < (w3.drew.alloc (.cells zSk.toArray 95)).heap.size := by simp
    have hD5 := hHeld.2.2.2.2
    have hD3 : D < w3.drew.heap.size := by show D < w3.heap.size; omega
    generalize w3.drew.alloc (.cells zSk.toArray 95) = w4 at *
    generalize hSB : w3.drew.heap.size = SB at *
    refine oneL 2 rfl (by kernel_rfl) rfl (fun K hK => ?_)
    go_simp
    refine (unhide HLE _).mono ?_
    rintro e w5 ⟨mb, rfl, hmb, mM, b5⟩
    go_wp2_with fail
    have H5 : CsAt w5 F (fsC ks) ∧ CsAt w5 D (isC ds) ∧ CsAt w5 (w.heap.size + 1) zSk ∧ Below w.heap.size w w5 ∧ D < w5.heap.size := ⟨hHeld.1.below b5 (by have := hHeld.2.2.2.2; omega), hHeld.2.1.below b5 (by have := hHeld.2.2.2.2; omega), hHeld.2.2.1.below b5 (by have := hHeld.2.2.2.2; omega), hHeld.2.2.2.1.trans (b5.mono (by have := hHeld.2.2.2.2; omega)), by have := b5.size; have := hHeld.2.2.2.2; omega⟩
    refine hK.out _ _ H5 (fun hHeld => ?_)
    clear hK K
    try simp only [Act.put, List.setIfInBounds_toArray, List.set_cons_zero, List.set_cons_succ]
    have HSK := hide (size_sk (mb := mb) hk4 hkF hd6)
    have HSKA := hide (size_ska (mb := mb) hk4 hkF hd6)
    have HBU := hide (fill_sk ks mb ds hk4 hkF hd6)
    refine takeL 4 (.agg (skC ks mb ds).toArray) rfl (by kernel_rfl) (by kernel_rfl) (by kernel_rfl) (fun _ _ _ h => h) (Or.inl ⟨rfl, fun w9 _ => run_build_three (unhide HBU) rfl rfl rfl rfl⟩) hHeld ?_
    try simp only [Act.put, List.setIfInBounds_toArray, List.set_cons_zero, List.set_cons_succ]
    have cN := cN0.below b5 (by omega)
    have mN := mM
    have sN : SB < w5.heap.size := by have := b5.size; omega
    have hne : mb ≠ SB := by omega
    have hne2 : mb ≠ w.heap.size + 1 := by omega
    clear mM
    have tK : w5.there SB 0 (skC ks mb ds).toArray.size := by rw [show (skC ks mb ds).toArray.size = 91 by rw [List.size_toArray, sk_len hk4 hkF hd6]]; have := cN.free; rwa [len_zsk] at this
    refine oneL 6 rfl (by kernel_rfl) rfl (fun K hK => ?_)
    refine wp_store_mid 95 _ _ rfl SB 0 (skC ks mb ds).toArray rfl rfl tK (unhide HSKA) (one_sk ks mb ds) ?_
    have kz := keptC w5 SB 0 (skC ks mb ds)
    have cK := cN.put (skC ks mb ds) (by rw [sk_len hk4 hkF hd6, len_zsk])
    have cR5 := hHeld.2.2.1.other (show w.heap.size + 1 ≠ SB by omega) 0 (skC ks mb ds)
    have B5 := below_setCells SB (show w.heap.size ≤ SB by omega) (skC ks mb ds) 0 _ hHeld.2.2.2.1
    have mM := mN.keptL kz (by simp; omega)
    have s7 : (w5.setCells SB 0 (skC ks mb ds)).heap.size = w5.heap.size := size_setCells _ _ _ _
    refine hK.out _ _ ⟨hHeld.1.other (show F ≠ SB by omega) _ _, hHeld.2.1.other (show D ≠ SB by omega) _ _, cR5, B5, by rw [s7]; omega⟩ (fun hHeld => ?_)
    clear hK K
    try simp only [Act.put, List.setIfInBounds_toArray, List.set_cons_zero, List.set_cons_succ]
    refine wpAnyH_done (by kernel_rfl) ?_ _
    refine NoPanic.normal ?_
    have sB7 : SB < (w5.setCells SB 0 (skC ks mb ds)).heap.size := by rw [s7]; omega
    have hmb7 : mb < (w5.setCells SB 0 (skC ks mb ds)).heap.size := mM.lt
    clear hHeld kz cN mN tK s7
    generalize w5.setCells SB 0 (skC ks mb ds) = w7 at *
    go_wp2
    refine wp_region_noPanic ?_
    refine wp_region_held_drew (S := fun w' => CsAt w' SB (skC ks mb ds)) (by kernel_rfl) (⟨fun j v hv => cK.cells j v hv, fun j hj => cK.free j hj⟩) (fun hHeld => ?_)
    refine takeL 0 (_) rfl (by kernel_rfl) (by kernel_rfl) (by kernel_rfl) (fun _ _ _ h => h) (yieldsIf_load_mid rfl 95 _ rfl SB 0 rfl (skC ks mb ds) _ (fun _ h => h.cells) Try.underlying95 rfl (unhide HSK)) hHeld ?_
    try simp only [Act.put, List.setIfInBounds_toArray, List.set_cons_zero, List.set_cons_succ]
    refine takeL 1 (_) rfl (by kernel_rfl) (by kernel_rfl) (by kernel_rfl) (fun _ _ _ h => h) (yieldsIf_load_mid rfl 95 _ rfl SB 0 rfl (skC ks mb ds) _ (fun _ h => h.cells) Try.underlying95 rfl (unhide HSK)) hHeld ?_
    try simp only [Act.put, List.setIfInBounds_toArray, List.set_cons_zero, List.set_cons_succ]
    refine oneL 2 rfl (by kernel_rfl) rfl (fun K hK => ?_)
    go_simp
    refine (unhide HHC mb 6 w7.drew mM).mono ?_
    rintro e wz ⟨rfl, bz⟩
    go_wp2_with fail
    refine hK.out _ _ (hHeld.below bz (by show _ < w7.heap.size; omega)) (fun hHeld => ?_)
    clear hK K
    try simp only [Act.put, List.setIfInBounds_toArray, List.set_cons_zero, List.set_cons_succ]
    have qz : w7.heap.size ≤ wz.heap.size := bz.size
    have cRz := (show CsAt w7.drew (w.heap.size + 1) zSk from ⟨fun j v hv => cR5.cells j v hv, fun j hj => cR5.free j hj⟩).below bz (by show _ < w7.heap.size; omega)
    have pz := cRz.put (skC ks mb ds) (by rw [sk_len hk4 hkF hd6, len_zsk])
    have tz : wz.there (w.heap.size + 1) 0 (skC ks mb ds).toArray.size := by rw [show (skC ks mb ds).toArray.size = 91 by rw [List.size_toArray, sk_len hk4 hkF hd6]]; have := cRz.free; rwa [len_zsk] at this
    have Bz := below_setCells (w.heap.size + 1) (show w.heap.size ≤ w.heap.size + 1 by omega) (skC ks mb ds) 0 _ (B5.drew.trans (bz.mono B5.size))
    have mz := ((show MapAt w7.drew mb 6 (mpF ks) from mM).below bz (by have := mM.lt; exact this)).keptL (keptC wz (w.heap.size + 1) 0 (skC ks mb ds)) (by simp; omega)
    refine oneL 3 rfl (by kernel_rfl) rfl (fun K hK => ?_)
    refine wp_store_mid 95 _ _ rfl (w.heap.size + 1) 0 (skC ks mb ds).toArray rfl rfl tz (unhide HSKA) (one_sk ks mb ds) ?_
    refine hK.out _ _ (hHeld.other (show SB ≠ w.heap.size + 1 by omega) _ _) (fun hHeld => ?_)
    clear hK K
    try simp only [Act.put, List.setIfInBounds_toArray, List.set_cons_zero, List.set_cons_succ]
    refine takeL 4 (.bool (hcB (mpF ks) ds)) rfl (by kernel_rfl) (by kernel_rfl) (by kernel_rfl) (fun _ _ _ h => h) (Or.inl ⟨rfl, fun _ _ => rfl⟩) hHeld ?_
    try simp only [Act.put, List.setIfInBounds_toArray, List.set_cons_zero, List.set_cons_succ]
    refine wpAnyH_done (by kernel_rfl) ?_ _
    refine NoPanic.normal ?_
    go_wp2_with fail
    refine bodyPost_ret (res_cell_tmp Try.results70 _ _ (w.heap.size + 1) (skC ks mb ds) _ rfl pz.cells Try.underlying95 rfl (unhide HSK)) rfl ?_
    exact ⟨skC ks mb ds, by rw [unhide HE]; rfl, sk_len hk4 hkF hd6, one_skv ks mb ds, (fun _ => ⟨mb, rfl, unhide HOKB, hd6, mz⟩), Bz, .inr ⟨ks, mb, ds, rfl, hk4, hkF, hd6, mz⟩⟩
end Go.Proofs.Ytkikeapfjpnkgaa.StF

/-
  The program's StoreOk, StoreRead, StoreAll and StoreDirty.
-/
namespace Go.Proofs.Ytkikeapfjpnkgaa.StG
open Go.ChangeShapes Go.WideShapes Go.ChangeAt Go.RowKit Go.Shelf OkA Big Fl ImplB ImplF ImplS _root_.Go.Proofs.Ytkikeapfjpnkgaa.Own ImplT ImplU SpecA SpecB SpecC SpecD SpecW SpecF SpecG SpecH Ok2 Pl FindP ImplO SpecX SpecO ImplQ ImplW ImplL FindN FindL FindV FindQ Kp StA MpA StB StC StD StE StF
set_option linter.unusedVariables false
set_option linter.unusedSimpArgs false
attribute [local go_sem ↓] Go.wp_at_zero Go.wp_at_succ

theorem size7 {sk : List Value} (h : sk.length = 91) : (Try.prog.info? 95).map (·.size) = some sk.length := by rw [h]; kernel_rfl
theorem size7a {sk : List Value} (h : sk.length = 91) : (Try.prog.info? 95).map (·.size) = some sk.toArray.size := by rw [List.size_toArray]; exact size7 h
/-- A store lies there. -/
structure SAt (w : World) (fa : Option Addr) (bs : List Bk) (da : Option Addr) (dk : List Int) : Prop where
  fs : FsAt w fa bs
  ds : DkAt w da dk
theorem SAt.below {w w' : World} {fa : Option Addr} {bs : List Bk} {da : Option Addr} {dk : List Int} (h : SAt w fa bs da dk) (hb : Below w.heap.size w w') : SAt w' fa bs da dk := ⟨h.fs.below hb, h.ds.below hb⟩

/-- What StoreRead answers, as the program reckons it. -/
def rdI (bs : List Bk) (dk : List Int) (addr : Int) : Int := if stI bs dk && inB addr 1 6 then mpV (mpF bs) dk addr else -1
/-- Which addresses are dirty, as the program reckons them. -/
def dyI (bs : List Bk) (dk : List Int) : List Int := if stI bs dk then whK kindD (mpF bs) 6 else []
/-- All values, as the program reckons them. -/
def alI (bs : List Bk) (dk : List Int) : List Int := if stI bs dk then (List.range 6).map fun i => mpV (mpF bs) dk ((i : Nat) + 1 : Int) else []
theorem made6 : madeCells (Value.int .i64 0).cells (6 * 1) = (isC zDk6).toArray := by kernel_rfl
theorem _root_.Go.Proofs.Ytkikeapfjpnkgaa.ImplL.CsAt.setInt {w : World} {b k : Nat} {l : List Int} (h : CsAt w b (isC l)) (hk : k < l.length) (x : Int) : CsAt (w.setCell ⟨b, k, none⟩ (.int .i64 x)) b (isC (l.set k x)) := by
  have e : w.setCell ⟨b, k, none⟩ (.int .i64 x) = w.setCells b k [.int .i64 x] := rfl
  have ht : w.there b k 1 := by have := there_sub h.free k 1 (by rw [len_isC]; omega); rwa [Nat.zero_add] at this
  have hs : (isC (l.set k x)) = (isC l).set k (.int .i64 x) := by simp [isC, List.map_set]
  rw [e, hs]
  refine ⟨fun j v hv => ?_, by rw [List.length_set]; exact World.there_setCells h.free _ _ _⟩
  rw [Nat.zero_add]
  by_cases q : j = k
  · subst q
    rw [List.getElem?_set_self (by rw [len_isC]; exact hk)] at hv
    have := cell_setCells_eq (vs := [.int .i64 x]) ht 0 (by simp)
    rw [Nat.add_zero] at this
    rw [this]; simpa using hv
  · rw [List.getElem?_set_ne (fun e => q e.symm)] at hv
    rw [cell_setCells_ne (.inr (by simp; omega))]
    have := h.cells j v hv
    rwa [Nat.zero_add] at this

theorem here : True := trivial
end Go.Proofs.Ytkikeapfjpnkgaa.StG
