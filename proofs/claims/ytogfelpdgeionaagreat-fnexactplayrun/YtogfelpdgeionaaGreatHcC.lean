/-
  Texts that belong together, one behind the other: ExS, SnA.
-/
import Derived.Test.YtogfelpdgeionaaGreatHaZ
import Derived.Test.YtogfelpdgeionaaGreatHaF
import Derived.Test.YtogfelpdgeionaaGreatHaG

/-
  Chapter 11's functions: program and specification answer the same.
-/
namespace Go.Proofs.YtogfelpdgeionaaGreat.ExS
open Go.ChangeShapes Go.WideShapes Go.ChangeAt Go.RowKit Go.Shelf Go.Joins OkA Big Fl ImplB ImplF ImplS _root_.Go.Proofs.YtogfelpdgeionaaGreat.Own ImplT ImplU SpecA SpecB SpecC SpecD SpecW Ok2 Pl ImplL Kp StA StB StD StF StG SpS SpT LawsA LawsB LawsE LawV LawI LawS LawT OpenF
theorem ok2 (fa : Option Addr) (fc : Nat) (bs : List Bk) (da : Option Addr) (dc : Nat) (dk : List Int) (w : World) (h : SAt w fa bs da dk) (hm : bs.length ≤ 1048576) (hm2 : dk.length ≤ 1048576) :
    Calls Tryz.prog 32 #[.agg #[.slice fa bs.length fc, .slice da dk.length dc]] w fun e w' => e = .returned (.bool (stB bs dk)) ∧ Below w.heap.size w w' := by
  rw [← st_eq]; exact implOk_any fa fc bs da dc dk w h (by omega) (by omega)
theorem read2 (fa : Option Addr) (fc : Nat) (bs : List Bk) (da : Option Addr) (dc : Nat) (dk : List Int) (addr : Int) (w : World) (h : SAt w fa bs da dk) (hm : bs.length ≤ 1048576) (hm2 : dk.length ≤ 1048576) :
    Calls Tryz.prog 37 #[.agg #[.slice fa bs.length fc, .slice da dk.length dc], .int .i64 addr] w fun e w' => e = .returned (.int .i64 (rdS bs dk addr)) ∧ Below w.heap.size w w' := by
  rw [← rd_eq]; exact implRead_any fa fc bs da dc dk addr w h (by omega) (by omega)
theorem all2 (fa : Option Addr) (fc : Nat) (bs : List Bk) (da : Option Addr) (dc : Nat) (dk : List Int) (w : World) (h : SAt w fa bs da dk) (hm : bs.length ≤ 1048576) (hm2 : dk.length ≤ 1048576) :
    Calls Tryz.prog 29 #[.agg #[.slice fa bs.length fc, .slice da dk.length dc]] w fun e w' => IsPost w (alS bs dk) e w' := by
  rw [← al_eq]; exact implAll_any fa fc bs da dc dk w h (by omega) (by omega)
theorem dirty2 (fa : Option Addr) (fc : Nat) (bs : List Bk) (da : Option Addr) (dc : Nat) (dk : List Int) (w : World) (h : SAt w fa bs da dk) (hm : bs.length ≤ 1048576) (hm2 : dk.length ≤ 1048576) :
    Calls Tryz.prog 36 #[.agg #[.slice fa bs.length fc, .slice da dk.length dc]] w fun e w' => IsPost w (dyS bs dk) e w' := by
  rw [← dy_eq]; exact implDirty_any fa fc bs da dc dk w h (by omega) (by omega)
theorem al_len (bs : List Bk) (dk : List Int) : (alS bs dk).length ≤ 6 := by unfold alS; split; rw [alK_len]; exact Nat.le_refl _; simp
theorem dy_len (bs : List Bk) (dk : List Int) : (dyS bs dk).length ≤ 6 := by unfold dyS; split; exact dyK_len _ _; simp
end Go.Proofs.YtogfelpdgeionaaGreat.ExS

/-
  StoreNew, of the program and of the specification; marks on a new store.
-/
namespace Go.Proofs.YtogfelpdgeionaaGreat.SnA
open Go.ChangeShapes Go.WideShapes Go.ChangeAt Go.RowKit Go.Shelf Go.Joins OkA Big Fl ImplB ImplF ImplS _root_.Go.Proofs.YtogfelpdgeionaaGreat.Own ImplT ImplU SpecA SpecB SpecC SpecD SpecW Ok2 Pl ImplW ImplL Kp StA StB StD StF StG SpS SpT LawsA LawsB LawsE LawV LawI LawS LawT MarkB
set_option linter.unusedVariables false
set_option linter.unusedSimpArgs false
attribute [local go_sem ↓] Go.wp_at_zero Go.wp_at_succ

def X (g c : Nat) : Value := .slice (some ⟨g, 0, none⟩) 4 c
def Y (d : Nat) : Value := .slice (some ⟨d, 0, none⟩) 6 6
def SnPost (w : World) (e : Ending) (w' : World) : Prop := ∃ g G d c, e = .returned (.agg #[.slice (some ⟨g, 0, none⟩) 4 c, .slice (some ⟨d, 0, none⟩) 6 6]) ∧ OwnS w' w.heap.size g G d zFs zDk6 ∧ Below w.heap.size w w'
theorem new_i (w : World) : Calls Tryz.prog 203 #[] w fun e w' => ∃ g G c, e = .returned (.slice (some ⟨g, 0, none⟩) 4 c) ∧ Own.Own w' w.heap.size g G zFs 4 ∧ Below w.heap.size w w' := by
  refine (flashNew_any w).mono ?_
  rintro e w' ⟨g, G, rfl, o, b⟩
  exact ⟨g, G, 4, rfl, o, b⟩
theorem wp_make6 {P : Program} {o : Oper} {a : Act} {w : World} {Q : Exit → Act → World → Prop} {K : Act → World → Prop} (t : TypeId) (x y : Operand) (ho : o.op = .makeSlice t x y) (n : Nat) (hx : a.eval x = .int .i64 n) (hy : a.eval y = .int .i64 n)
    (e sz bytes : Nat) (z : Value) (ht : P.underlying t = some (.slice e)) (hi : (P.info? e).map (fun i => (i.zero, i.size, i.bytes)) = some (some z, sz, bytes)) (hb : bytes * n ≤ 281474976710656) (hn : n ≤ 281474976710656)
    (h : K (a.put o.dst (.slice (some ⟨w.heap.size, 0, none⟩) n n)) (w.alloc (.cells (madeCells z.cells (n * sz)) e))) : o.wp P a w K Q := by
  cases hq : P.info? e with
  | none => simp [hq] at hi
  | some i =>
    simp [hq] at hi
    obtain ⟨h1, h2, h3⟩ := hi
    have hb' : (i.bytes : Int) * (n : Int) ≤ 281474976710656 := by
      rw [h3, ← Int.natCast_mul]; exact Int.ofNat_le.2 hb
    have hrun := run_make (P := P) w t e i z ht hq h1 .i64 .i64 n n (by omega) (by omega) hb' (by omega)
    simp only [Int.toNat_natCast, h2] at hrun
    unfold Oper.wp execOp
    simp only [ho, hx, hy, Sem.run_bind, hrun, Result.andThen_ok]
    exact h

set_option maxRecDepth 100000 in
set_option maxHeartbeats 2000000 in
theorem implNew_any (w : World) : Calls Tryz.prog 137 #[] w fun e w' => SnPost w e w' := by
  have b1 : Below w.heap.size w (w.alloc (.cells #[.slice none 0 0, .slice none 0 0] 26)) := (Below.refl _ _).alloc (Nat.le_refl _) _
  have cR := store_box w (.slice none 0 0) (.slice none 0 0)
  have s1 : (w.alloc (.cells #[.slice none 0 0, .slice none 0 0] 26)).heap.size = w.heap.size + 1 := by simp
  have HSS := hide (show (Tryz.prog.info? 26).map (·.size) = some 2 by kernel_rfl)
  have HB := hide (fun (g d cap : Nat) => (show Tryz.prog.built 26 [(0, .slice (some ⟨g, 0, none⟩) 4 cap), (1, .slice (some ⟨d, 0, none⟩) 6 6)] = some #[.slice (some ⟨g, 0, none⟩) 4 cap, .slice (some ⟨d, 0, none⟩) 6 6] by kernel_rfl))
  have HN := hide new_i
  go_enter Tryz.func137, Tryz.ntmps137
  go_upto_region 1 with fail
  generalize w.alloc (.cells #[.slice none 0 0, .slice none 0 0] 26) = w1 at *
  refine wp_region_noPanic ?_
  refine wp_region_held_drew (S := fun w' => True) (by kernel_rfl) (trivial) (fun hHeld => ?_)
  have cRd : CsAt w1.drew w.heap.size [.slice none 0 0, .slice none 0 0] := ⟨fun j v hv => cR.cells j v hv, fun j hj => cR.free j hj⟩
  have b1d := b1.drew
  have s1d : w1.drew.heap.size = w.heap.size + 1 := s1
  clear cR b1 s1
  generalize w1.drew = w2 at *
  refine twoL 0 1 rfl rfl (by kernel_rfl) rfl rfl (fun K hK => ?_) (fun K hK => ?_)
  · go_simp
    refine (unhide HN _).mono ?_
    rintro e w3 ⟨g, G, c, rfl, o, b⟩
    go_wp2_with fail
    refine hK.out _ _ trivial (fun hHeld => ?_)
    clear hK K
    try simp only [Act.put, List.setIfInBounds_toArray, List.set_cons_zero, List.set_cons_succ]
    refine oneL 1 rfl (by kernel_rfl) rfl (fun K hK => ?_)
    refine wp_make6 24 _ _ rfl 6 rfl rfl 3 1 8 (.int .i64 0) Tryz.underlying24 made_int (by omega) (by omega) ?_
    rw [made6]
    refine hK.out _ _ trivial (fun hHeld => ?_)
    clear hK K
    try simp only [Act.put, List.setIfInBounds_toArray, List.set_cons_zero, List.set_cons_succ]
    have bA : Below w3.heap.size w3 (w3.alloc (.cells (isC zDk6).toArray 3)) := (Below.refl _ _).alloc (Nat.le_refl _) _
    have q3 := b.size
    have cN := CsAt.new w3 (isC zDk6) 3
    have S4 : OwnS (w3.alloc (.cells (isC zDk6).toArray 3)) w.heap.size g G w3.heap.size zFs zDk6 := ⟨(o.below bA (Nat.le_refl _)).mono (by omega), cN, by omega, by simp, fun hm => by have := o.hi _ hm; omega⟩
    have C4 := (cRd.below b (by omega)).below bA (by omega)
    have B4 := (b1d.trans (b.mono b1d.size)).trans (bA.mono (by omega))
    have hl4 : ∀ x ∈ w3.heap.size :: g :: G, w.heap.size + 1 ≤ x := fun x hx => by rcases List.mem_cons.1 hx with rfl | hx; omega; have := o.lo x hx; omega
    generalize w3.alloc (.cells (isC zDk6).toArray 3) = w4 at *
    refine oneL 2 rfl (by kernel_rfl) rfl (fun K hK => ?_)
    refine wp_build_two 26 _ _ rfl (.slice (some ⟨g, 0, none⟩) 4 c) (.slice (some ⟨w3.heap.size, 0, none⟩) 6 6) rfl rfl [.slice (some ⟨g, 0, none⟩) 4 c, .slice (some ⟨w3.heap.size, 0, none⟩) 6 6].toArray (unhide HB g w3.heap.size c) ?_
    refine hK.out _ _ trivial (fun hHeld => ?_)
    clear hK K
    try simp only [Act.put, List.setIfInBounds_toArray, List.set_cons_zero, List.set_cons_succ]
    have p1 := C4.put [.slice (some ⟨g, 0, none⟩) 4 c, .slice (some ⟨w3.heap.size, 0, none⟩) 6 6] rfl
    have oz : Only [w.heap.size] w4 (w4.setCells w.heap.size 0 [.slice (some ⟨g, 0, none⟩) 4 c, .slice (some ⟨w3.heap.size, 0, none⟩) 6 6]) := (Only.refl _ _).setCells (by simp) 0 _
    have SZ := keptS S4 oz (by rw [size_setCells]; exact Nat.le_refl _) (fun x hx => by have := hl4 x hx; simp; omega)
    have BZ := below_setCells w.heap.size (Nat.le_refl _) [.slice (some ⟨g, 0, none⟩) 4 c, .slice (some ⟨w3.heap.size, 0, none⟩) 6 6] 0 _ B4
    refine oneL 3 rfl (by kernel_rfl) rfl (fun K hK => ?_)
    refine wp_store_mid 26 _ _ rfl w.heap.size 0 [.slice (some ⟨g, 0, none⟩) 4 c, .slice (some ⟨w3.heap.size, 0, none⟩) 6 6].toArray rfl rfl C4.free (unhide HSS) (by kernel_rfl) ?_
    refine hK.out _ _ trivial (fun hHeld => ?_)
    clear hK K
    try simp only [Act.put, List.setIfInBounds_toArray, List.set_cons_zero, List.set_cons_succ]
    refine wpAnyH_done (by kernel_rfl) ?_ _
    refine NoPanic.normal ?_
    go_wp2_with fail
    refine bodyPost_ret (res_cell_mid Tryz.results137 _ _ w.heap.size [.slice (some ⟨g, 0, none⟩) 4 c, .slice (some ⟨w3.heap.size, 0, none⟩) 6 6] _ rfl p1.cells Tryz.underlying26 rfl (by kernel_rfl)) rfl ?_
    exact ⟨g, G, w3.heap.size, c, rfl, SZ, BZ⟩
  · refine wp_make6 24 _ _ rfl 6 rfl rfl 3 1 8 (.int .i64 0) Tryz.underlying24 made_int (by omega) (by omega) ?_
    rw [made6]
    refine hK.out _ _ trivial (fun hHeld => ?_)
    clear hK K
    try simp only [Act.put, List.setIfInBounds_toArray, List.set_cons_zero, List.set_cons_succ]
    have bA : Below w2.heap.size w2 (w2.alloc (.cells (isC zDk6).toArray 3)) := (Below.refl _ _).alloc (Nat.le_refl _) _
    have cN := CsAt.new w2 (isC zDk6) 3
    have sN : (w2.alloc (.cells (isC zDk6).toArray 3)).heap.size = w2.heap.size + 1 := by simp
    have cR3 := cRd.below bA (by omega)
    have b3d := b1d.trans (bA.mono b1d.size)
    generalize w2.alloc (.cells (isC zDk6).toArray 3) = w3 at *
    refine oneL 0 rfl (by kernel_rfl) rfl (fun K hK => ?_)
    go_simp
    refine (unhide HN _).mono ?_
    rintro e w4 ⟨g, G, c, rfl, o, b⟩
    go_wp2_with fail
    refine hK.out _ _ trivial (fun hHeld => ?_)
    clear hK K
    try simp only [Act.put, List.setIfInBounds_toArray, List.set_cons_zero, List.set_cons_succ]
    have q4 := b.size
    have cN4 := cN.below b (by omega)
    rw [s1d] at cN4
    have S4 : OwnS w4 w.heap.size g G (w.heap.size + 1) zFs zDk6 := ⟨o.mono (by omega), cN4, by omega, by omega, fun hm => by have := o.lo _ hm; omega⟩
    have C4 := cR3.below b (by omega)
    have B4 := b3d.trans (b.mono b3d.size)
    have hl4 : ∀ x ∈ (w.heap.size + 1) :: g :: G, w.heap.size + 1 ≤ x := fun x hx => by rcases List.mem_cons.1 hx with rfl | hx; omega; have := o.lo x hx; omega
    refine oneL 2 rfl (by kernel_rfl) rfl (fun K hK => ?_)
    refine wp_build_two 26 _ _ rfl (.slice (some ⟨g, 0, none⟩) 4 c) (.slice (some ⟨(w.heap.size + 1), 0, none⟩) 6 6) rfl rfl [.slice (some ⟨g, 0, none⟩) 4 c, .slice (some ⟨(w.heap.size + 1), 0, none⟩) 6 6].toArray (unhide HB g (w.heap.size + 1) c) ?_
    refine hK.out _ _ trivial (fun hHeld => ?_)
    clear hK K
    try simp only [Act.put, List.setIfInBounds_toArray, List.set_cons_zero, List.set_cons_succ]
    have p1 := C4.put [.slice (some ⟨g, 0, none⟩) 4 c, .slice (some ⟨(w.heap.size + 1), 0, none⟩) 6 6] rfl
    have oz : Only [w.heap.size] w4 (w4.setCells w.heap.size 0 [.slice (some ⟨g, 0, none⟩) 4 c, .slice (some ⟨(w.heap.size + 1), 0, none⟩) 6 6]) := (Only.refl _ _).setCells (by simp) 0 _
    have SZ := keptS S4 oz (by rw [size_setCells]; exact Nat.le_refl _) (fun x hx => by have := hl4 x hx; simp; omega)
    have BZ := below_setCells w.heap.size (Nat.le_refl _) [.slice (some ⟨g, 0, none⟩) 4 c, .slice (some ⟨(w.heap.size + 1), 0, none⟩) 6 6] 0 _ B4
    refine oneL 3 rfl (by kernel_rfl) rfl (fun K hK => ?_)
    refine wp_store_mid 26 _ _ rfl w.heap.size 0 [.slice (some ⟨g, 0, none⟩) 4 c, .slice (some ⟨(w.heap.size + 1), 0, none⟩) 6 6].toArray rfl rfl C4.free (unhide HSS) (by kernel_rfl) ?_
    refine hK.out _ _ trivial (fun hHeld => ?_)
    clear hK K
    try simp only [Act.put, List.setIfInBounds_toArray, List.set_cons_zero, List.set_cons_succ]
    refine wpAnyH_done (by kernel_rfl) ?_ _
    refine NoPanic.normal ?_
    go_wp2_with fail
    refine bodyPost_ret (res_cell_mid Tryz.results137 _ _ w.heap.size [.slice (some ⟨g, 0, none⟩) 4 c, .slice (some ⟨(w.heap.size + 1), 0, none⟩) 6 6] _ rfl p1.cells Tryz.underlying26 rfl (by kernel_rfl)) rfl ?_
    exact ⟨g, G, (w.heap.size + 1), c, rfl, SZ, BZ⟩

set_option maxRecDepth 100000 in
set_option maxHeartbeats 2000000 in
theorem specNew_any (w : World) : Calls Tryz.prog 136 #[] w fun e w' => SnPost w e w' := by
  have b1 : Below w.heap.size w (w.alloc (.cells #[.slice none 0 0, .slice none 0 0] 26)) := (Below.refl _ _).alloc (Nat.le_refl _) _
  have cR := store_box w (.slice none 0 0) (.slice none 0 0)
  have s1 : (w.alloc (.cells #[.slice none 0 0, .slice none 0 0] 26)).heap.size = w.heap.size + 1 := by simp
  have HSS := hide (show (Tryz.prog.info? 26).map (·.size) = some 2 by kernel_rfl)
  have HB := hide (fun (g d cap : Nat) => (show Tryz.prog.built 26 [(0, .slice (some ⟨g, 0, none⟩) 4 cap), (1, .slice (some ⟨d, 0, none⟩) 6 6)] = some #[.slice (some ⟨g, 0, none⟩) 4 cap, .slice (some ⟨d, 0, none⟩) 6 6] by kernel_rfl))
  have HN := hide SpecN.new_any
  go_enter Tryz.func136, Tryz.ntmps136
  go_upto_region 1 with fail
  generalize w.alloc (.cells #[.slice none 0 0, .slice none 0 0] 26) = w1 at *
  refine wp_region_noPanic ?_
  refine wp_region_held_drew (S := fun w' => True) (by kernel_rfl) (trivial) (fun hHeld => ?_)
  have cRd : CsAt w1.drew w.heap.size [.slice none 0 0, .slice none 0 0] := ⟨fun j v hv => cR.cells j v hv, fun j hj => cR.free j hj⟩
  have b1d := b1.drew
  have s1d : w1.drew.heap.size = w.heap.size + 1 := s1
  clear cR b1 s1
  generalize w1.drew = w2 at *
  refine twoL 0 1 rfl rfl (by kernel_rfl) rfl rfl (fun K hK => ?_) (fun K hK => ?_)
  · go_simp
    refine (unhide HN _).mono ?_
    rintro e w3 ⟨g, G, c, rfl, o, b⟩
    go_wp2_with fail
    refine hK.out _ _ trivial (fun hHeld => ?_)
    clear hK K
    try simp only [Act.put, List.setIfInBounds_toArray, List.set_cons_zero, List.set_cons_succ]
    refine oneL 1 rfl (by kernel_rfl) rfl (fun K hK => ?_)
    refine wp_make6 24 _ _ rfl 6 rfl rfl 3 1 8 (.int .i64 0) Tryz.underlying24 made_int (by omega) (by omega) ?_
    rw [made6]
    refine hK.out _ _ trivial (fun hHeld => ?_)
    clear hK K
    try simp only [Act.put, List.setIfInBounds_toArray, List.set_cons_zero, List.set_cons_succ]
    have bA : Below w3.heap.size w3 (w3.alloc (.cells (isC zDk6).toArray 3)) := (Below.refl _ _).alloc (Nat.le_refl _) _
    have q3 := b.size
    have cN := CsAt.new w3 (isC zDk6) 3
    have S4 : OwnS (w3.alloc (.cells (isC zDk6).toArray 3)) w.heap.size g G w3.heap.size zFs zDk6 := ⟨(o.below bA (Nat.le_refl _)).mono (by omega), cN, by omega, by simp, fun hm => by have := o.hi _ hm; omega⟩
    have C4 := (cRd.below b (by omega)).below bA (by omega)
    have B4 := (b1d.trans (b.mono b1d.size)).trans (bA.mono (by omega))
    have hl4 : ∀ x ∈ w3.heap.size :: g :: G, w.heap.size + 1 ≤ x := fun x hx => by rcases List.mem_cons.1 hx with rfl | hx; omega; have := o.lo x hx; omega
    generalize w3.alloc (.cells (isC zDk6).toArray 3) = w4 at *
    refine oneL 2 rfl (by kernel_rfl) rfl (fun K hK => ?_)
    refine wp_build_two 26 _ _ rfl (.slice (some ⟨g, 0, none⟩) 4 c) (.slice (some ⟨w3.heap.size, 0, none⟩) 6 6) rfl rfl [.slice (some ⟨g, 0, none⟩) 4 c, .slice (some ⟨w3.heap.size, 0, none⟩) 6 6].toArray (unhide HB g w3.heap.size c) ?_
    refine hK.out _ _ trivial (fun hHeld => ?_)
    clear hK K
    try simp only [Act.put, List.setIfInBounds_toArray, List.set_cons_zero, List.set_cons_succ]
    have p1 := C4.put [.slice (some ⟨g, 0, none⟩) 4 c, .slice (some ⟨w3.heap.size, 0, none⟩) 6 6] rfl
    have oz : Only [w.heap.size] w4 (w4.setCells w.heap.size 0 [.slice (some ⟨g, 0, none⟩) 4 c, .slice (some ⟨w3.heap.size, 0, none⟩) 6 6]) := (Only.refl _ _).setCells (by simp) 0 _
    have SZ := keptS S4 oz (by rw [size_setCells]; exact Nat.le_refl _) (fun x hx => by have := hl4 x hx; simp; omega)
    have BZ := below_setCells w.heap.size (Nat.le_refl _) [.slice (some ⟨g, 0, none⟩) 4 c, .slice (some ⟨w3.heap.size, 0, none⟩) 6 6] 0 _ B4
    refine oneL 3 rfl (by kernel_rfl) rfl (fun K hK => ?_)
    refine wp_store_mid 26 _ _ rfl w.heap.size 0 [.slice (some ⟨g, 0, none⟩) 4 c, .slice (some ⟨w3.heap.size, 0, none⟩) 6 6].toArray rfl rfl C4.free (unhide HSS) (by kernel_rfl) ?_
    refine hK.out _ _ trivial (fun hHeld => ?_)
    clear hK K
    try simp only [Act.put, List.setIfInBounds_toArray, List.set_cons_zero, List.set_cons_succ]
    refine wpAnyH_done (by kernel_rfl) ?_ _
    refine NoPanic.normal ?_
    go_wp2_with fail
    refine bodyPost_ret (res_cell_mid Tryz.results136 _ _ w.heap.size [.slice (some ⟨g, 0, none⟩) 4 c, .slice (some ⟨w3.heap.size, 0, none⟩) 6 6] _ rfl p1.cells Tryz.underlying26 rfl (by kernel_rfl)) rfl ?_
    exact ⟨g, G, w3.heap.size, c, rfl, SZ, BZ⟩
  · refine wp_make6 24 _ _ rfl 6 rfl rfl 3 1 8 (.int .i64 0) Tryz.underlying24 made_int (by omega) (by omega) ?_
    rw [made6]
    refine hK.out _ _ trivial (fun hHeld => ?_)
    clear hK K
    try simp only [Act.put, List.setIfInBounds_toArray, List.set_cons_zero, List.set_cons_succ]
    have bA : Below w2.heap.size w2 (w2.alloc (.cells (isC zDk6).toArray 3)) := (Below.refl _ _).alloc (Nat.le_refl _) _
    have cN := CsAt.new w2 (isC zDk6) 3
    have sN : (w2.alloc (.cells (isC zDk6).toArray 3)).heap.size = w2.heap.size + 1 := by simp
    have cR3 := cRd.below bA (by omega)
    have b3d := b1d.trans (bA.mono b1d.size)
    generalize w2.alloc (.cells (isC zDk6).toArray 3) = w3 at *
    refine oneL 0 rfl (by kernel_rfl) rfl (fun K hK => ?_)
    go_simp
    refine (unhide HN _).mono ?_
    rintro e w4 ⟨g, G, c, rfl, o, b⟩
    go_wp2_with fail
    refine hK.out _ _ trivial (fun hHeld => ?_)
    clear hK K
    try simp only [Act.put, List.setIfInBounds_toArray, List.set_cons_zero, List.set_cons_succ]
    have q4 := b.size
    have cN4 := cN.below b (by omega)
    rw [s1d] at cN4
    have S4 : OwnS w4 w.heap.size g G (w.heap.size + 1) zFs zDk6 := ⟨o.mono (by omega), cN4, by omega, by omega, fun hm => by have := o.lo _ hm; omega⟩
    have C4 := cR3.below b (by omega)
    have B4 := b3d.trans (b.mono b3d.size)
    have hl4 : ∀ x ∈ (w.heap.size + 1) :: g :: G, w.heap.size + 1 ≤ x := fun x hx => by rcases List.mem_cons.1 hx with rfl | hx; omega; have := o.lo x hx; omega
    refine oneL 2 rfl (by kernel_rfl) rfl (fun K hK => ?_)
    refine wp_build_two 26 _ _ rfl (.slice (some ⟨g, 0, none⟩) 4 c) (.slice (some ⟨(w.heap.size + 1), 0, none⟩) 6 6) rfl rfl [.slice (some ⟨g, 0, none⟩) 4 c, .slice (some ⟨(w.heap.size + 1), 0, none⟩) 6 6].toArray (unhide HB g (w.heap.size + 1) c) ?_
    refine hK.out _ _ trivial (fun hHeld => ?_)
    clear hK K
    try simp only [Act.put, List.setIfInBounds_toArray, List.set_cons_zero, List.set_cons_succ]
    have p1 := C4.put [.slice (some ⟨g, 0, none⟩) 4 c, .slice (some ⟨(w.heap.size + 1), 0, none⟩) 6 6] rfl
    have oz : Only [w.heap.size] w4 (w4.setCells w.heap.size 0 [.slice (some ⟨g, 0, none⟩) 4 c, .slice (some ⟨(w.heap.size + 1), 0, none⟩) 6 6]) := (Only.refl _ _).setCells (by simp) 0 _
    have SZ := keptS S4 oz (by rw [size_setCells]; exact Nat.le_refl _) (fun x hx => by have := hl4 x hx; simp; omega)
    have BZ := below_setCells w.heap.size (Nat.le_refl _) [.slice (some ⟨g, 0, none⟩) 4 c, .slice (some ⟨(w.heap.size + 1), 0, none⟩) 6 6] 0 _ B4
    refine oneL 3 rfl (by kernel_rfl) rfl (fun K hK => ?_)
    refine wp_store_mid 26 _ _ rfl w.heap.size 0 [.slice (some ⟨g, 0, none⟩) 4 c, .slice (some ⟨(w.heap.size + 1), 0, none⟩) 6 6].toArray rfl rfl C4.free (unhide HSS) (by kernel_rfl) ?_
    refine hK.out _ _ trivial (fun hHeld => ?_)
    clear hK K
    try simp only [Act.put, List.setIfInBounds_toArray, List.set_cons_zero, List.set_cons_succ]
    refine wpAnyH_done (by kernel_rfl) ?_ _
    refine NoPanic.normal ?_
    go_wp2_with fail
    refine bodyPost_ret (res_cell_mid Tryz.results136 _ _ w.heap.size [.slice (some ⟨g, 0, none⟩) 4 c, .slice (some ⟨(w.heap.size + 1), 0, none⟩) 6 6] _ rfl p1.cells Tryz.underlying26 rfl (by kernel_rfl)) rfl ?_
    exact ⟨g, G, (w.heap.size + 1), c, rfl, SZ, BZ⟩
def MarkPostO (w : World) (lo g N n : Nat) (G : List Nat) (k : Int) (e : Ending) (w' : World) : Prop := e = .returned (.int .i64 (k + 21 * (n : Nat))) ∧ Own.Own w' lo g G (mkBs n k) N ∧ Below lo w w' ∧ w'.heap.size = w.heap.size ∧ Only (g :: G) w w'
set_option maxHeartbeats 1000000 in
theorem markBlockO_any (lo g cap N : Nat) (G : List Nat) (bs : List Bk) (k : Int) (w : World) (o : Own.Own w lo g G bs N) (hF : Fours bs) (h4 : bs.length ≤ 4) (hk0 : 0 ≤ k) (hk1 : k ≤ 100) :
    Calls Tryz.prog 132 #[.slice (some ⟨g, 0, none⟩) bs.length cap, .int .i64 k] w fun e w' => MarkPostO w lo g N bs.length G k e w' := by
  have HO := hide o
  have HF := hide hF
  clear o hF
  go_enter Tryz.func132, Tryz.ntmps132
  go_wp2
  go_loopw [5, 1] (fun i m w' => ∃ (j : Nat) (M : Int), j ≤ bs.length ∧ i = .int .i64 j ∧ m = .int .i64 M ∧ M = k + 21 * (j : Nat) ∧ Own.Own w' lo g G (mkBs j k ++ bs.drop j) N ∧ Below lo w w' ∧ w'.heap.size = w.heap.size ∧ Only (g :: G) w w') (fun i _ _ => bs.length - (intOf i).toNat)
  case atStart => exact ⟨0, k, by omega, rfl, rfl, by omega, by simpa [mkBs] using unhide HO, Below.refl _ _, rfl, Only.refl _ _⟩
  case round =>
    obtain ⟨j, M, hj, rfl, rfl, hM, oj, bj, sj, yj⟩ := hrel
    by_cases h0 : j = bs.length
    · subst h0
      go_wp2
      go_ret
      refine ⟨by rw [hM]; rfl, ?_, bj, sj, yj⟩
      rw [List.drop_eq_nil_of_le (Nat.le_refl _), List.append_nil] at oj
      exact oj
    · have hlt : (j : Int) < (bs.length : Int) := by omega
      have hjb : j < bs.length := by omega
      have hlo : (0 : Int) ≤ (j : Int) := by omega
      have hlen := oj.len
      have hml := mix_len j k bs hj
      have hj' : j < (mkBs j k ++ bs.drop j).length := by omega
      have hma := mix_at j k bs hjb
      have hb4 : bs[j].ps.length = 4 := (unhide HF).at j hjb
      obtain ⟨pc, c0⟩ := oj.out j hj'
      have c1 := oj.worn j hj'
      have tp := oj.free j hj'
      have hne : g ≠ G[j]'(by omega) := fun e => (List.nodup_cons.1 oj.nd).1 (e ▸ List.getElem_mem _)
      have hgl : lo ≤ g := oj.lo g (by simp)
      have hmem : G[j]'(by omega) ∈ g :: G := List.mem_cons_of_mem _ (List.getElem_mem _)
      have hpl : lo ≤ G[j]'(by omega) := oj.lo _ hmem
      have OB := hide (oj.block j hj' (mkPs 4 M) (by rw [mkPs_len, hma, hb4]) (M + 20))
      rw [show (⟨mkPs 4 M, M + 20⟩ : Bk) = mkB (k + 21 * (j : Nat)) by rw [← hM]; rfl, mix_set j k bs hjb] at OB
      simp only [hma] at c0 c1 tp
      rw [hb4] at c0 tp
      have hM0 : 0 ≤ M := by omega
      have hM1 : M ≤ 1000 := by omega
      generalize G[j]'(by omega) = gj at *
      have HC := hide (markPageS_any gj pc 4 M wr hM0 hM1 (by omega) tp)
      have TR := oj.room
      have hfit := oj.fit
      generalize psC (mkPs 4 M) = cs at *
      have C1 : (wr.setCells gj 0 cs).cell? ⟨g, j * 2 + 1, none⟩ = some (.int .i64 bs[j].wn) := by rw [cell_setCells_ne (.inl hne)]; exact c1
      have F1 : (wr.setCells gj 0 cs).frozen? ⟨g, j * 2 + 1, none⟩ = false := by
        have := (World.there_setCells TR gj 0 cs (j * 2 + 1) (by omega)).2
        rwa [Nat.zero_add] at this
      have B1 := below_setCells gj hpl cs 0 wr bj
      have Y1 := hide ((yj.setCells hmem 0 cs).setCells (show g ∈ g :: G by simp) (j * 2 + 1) [.int .i64 (M + 20)])
      have S1 : (wr.setCells gj 0 cs).heap.size = w.heap.size := by rw [size_setCells]; exact sj
      have HM := hide hM
      clear hM oj bj sj yj c1 tp hma hml hj' hlen TR
      generalize wr.setCells gj 0 cs = w1 at *
      go_wp2_with (go_at_call 197; refine (unhide HC).mono ?_; rintro e w' ⟨rfl, rfl⟩; rw [show M + 5 * ((4 : Nat) : Int) = M + 20 by omega])
      go_roundw
      case rel =>
        refine ⟨j + 1, M + 21, by omega, by first | rfl | go_num, by first | rfl | go_num, by have := unhide HM; omega, unhide OB, B1.setCell hgl _, ?_, unhide Y1⟩
        rw [World.size_setCell]; exact S1
      case measure => simp [intOf]; omega

/-- Marks on a store of four blocks and six numbers. -/
def MnPost (w : World) (lo g : Nat) (G : List Nat) (d : Nat) (e : Ending) (w' : World) : Prop := e = .returned (.int .i64 91) ∧ OwnS w' lo g G d (mkBs 4 1) (mkI 6 85) ∧ OnlyG (d :: g :: G) w w' ∧ Below lo w w'
theorem fours_zf : Fours zFs := fours_z
set_option maxHeartbeats 1000000 in
theorem markN_any (lo g d c1 c2 : Nat) (G : List Nat) (w : World) (hlo : lo ≤ w.heap.size) (o : OwnS w lo g G d zFs zDk6) :
    Calls Tryz.prog 57 #[.agg #[.slice (some ⟨g, 0, none⟩) 4 c1, .slice (some ⟨d, 0, none⟩) 6 c2], .int .i64 1] w fun e w' => MnPost w lo g G d e w' := by
  have B0 : Below w.heap.size w (w.alloc (.cells #[.slice (some ⟨g, 0, none⟩) 4 c1, .slice (some ⟨d, 0, none⟩) 6 c2] 26)) := (Below.refl _ _).alloc (Nat.le_refl _) _
  have cS := store_box w (.slice (some ⟨g, 0, none⟩) 4 c1) (.slice (some ⟨d, 0, none⟩) 6 c2)
  have s0 : (w.alloc (.cells #[.slice (some ⟨g, 0, none⟩) 4 c1, .slice (some ⟨d, 0, none⟩) 6 c2] 26)).heap.size = w.heap.size + 1 := by simp
  have o0 := o.below B0 (Nat.le_refl _)
  have hhi : ∀ x ∈ d :: g :: G, x < w.heap.size := fun x hx => by
    rcases List.mem_cons.1 hx with rfl | hx
    · exact o.dhi
    · exact o.own.hi x hx
  have x0 := cS.cell 0 _ rfl
  have hdn := o.dne
  clear o
  go_enter Tryz.func57, Tryz.ntmps57
  go_wp2_with fail
  generalize w.alloc (.cells #[.slice (some ⟨g, 0, none⟩) 4 c1, .slice (some ⟨d, 0, none⟩) 6 c2] 26) = w0 at *
  refine (markBlockO_any lo g c1 4 G zFs 1 w0 o0.own fours_z (by decide) (by omega) (by omega)).mono ?_
  rintro e w1 ⟨rfl, p1, b1, z1, y1⟩
  have g1 : OnlyG (d :: g :: G) w w1 := (OnlyG.of B0).trans ((OnlyG.only y1).sub (fun x hx => .inl (List.mem_cons_of_mem _ hx)))
  have hSn : w.heap.size ∉ g :: G := fun hm => by have := hhi _ (List.mem_cons_of_mem _ hm); omega
  have x1 : w1.cell? ⟨w.heap.size, 1, none⟩ = some (.slice (some ⟨d, 0, none⟩) 6 c2) := by rw [y1.cell _ _ hSn]; exact cS.cell 1 _ rfl
  have c1' : CsAt w1 d (isC zDk6) := ⟨fun j v hv => by rw [y1.cell d _ hdn]; exact o0.ds.cells j v hv, fun j hj => by rw [y1.cell d _ hdn, y1.frozen d _ hdn]; exact o0.ds.free j hj⟩
  have B1 := (B0.mono hlo).trans b1
  have hdl := o0.dlo
  have hdh := hhi d (by simp)
  clear cS x0 o0 y1 b1 B0
  have e85 : (1 : Int) + 21 * ((zFs.length : Nat) : Int) = 85 := by decide
  rw [e85]
  have HMI := hide (markIntS_any d c2 zDk6 85 w1 c1' (by decide) (by omega) (by omega))
  go_wp2_with fail
  refine (unhide HMI).mono ?_
  rintro e w2 ⟨rfl, c2', y2, k2⟩
  have g2 : OnlyG (d :: g :: G) w w2 := g1.trans ((OnlyG.only y2).sub (fun x hx => by simp at hx; subst hx; exact .inl (by simp)))
  have B2 := B1.trans (k2.below (B := lo) (fun x hx => by simp at hx; subst hx; exact hdl) (by omega))
  have p2 := LawV.Own.only p1 y2 (fun x hx hm => by simp at hm; subst hm; exact hdn hx)
  have S2 : OwnS w2 lo g G d (mkBs 4 1) (mkI 6 85) := ⟨p2, c2', hdl, by have := y2.size; omega, hdn⟩
  clear x1 y2 k2 g1 B1 p1 p2 c2' c1'
  go_wp2
  go_ret
  exact ⟨rfl, S2, g2, B2⟩
set_option maxHeartbeats 1000000 in
theorem heldN_any (lo g d c1 c2 : Nat) (G : List Nat) (w : World) (o : OwnS w lo g G d (mkBs 4 1) (mkI 6 85)) :
    Calls Tryz.prog 62 #[.agg #[.slice (some ⟨g, 0, none⟩) 4 c1, .slice (some ⟨d, 0, none⟩) 6 c2], .int .i64 1] w fun e w' => e = .returned (.int .i64 91) ∧ Below w.heap.size w w' := by
  have B0 : Below w.heap.size w (w.alloc (.cells #[.slice (some ⟨g, 0, none⟩) 4 c1, .slice (some ⟨d, 0, none⟩) 6 c2] 26)) := (Below.refl _ _).alloc (Nat.le_refl _) _
  have cS := store_box w (.slice (some ⟨g, 0, none⟩) 4 c1) (.slice (some ⟨d, 0, none⟩) 6 c2)
  have o0 := o.below B0 (Nat.le_refl _)
  have x0 := cS.cell 0 _ rfl
  have x1 := cS.cell 1 _ rfl
  have HB := hide (heldBlockS_any (some ⟨g, 0, none⟩) c1 4 1 _ (by omega) (by omega) (by omega) o0.own.fs)
  have HI := hide (heldIntS_any (some ⟨d, 0, none⟩) c2 6 85 _ (by omega) (by omega) (by omega) (.inr ⟨d, 0, rfl, o0.ds.cells⟩))
  clear o o0 cS
  go_enter Tryz.func62, Tryz.ntmps62
  go_wp2_with fail
  generalize w.alloc (.cells #[.slice (some ⟨g, 0, none⟩) 4 c1, .slice (some ⟨d, 0, none⟩) 6 c2] 26) = w0 at *
  refine (unhide HB).mono ?_
  rintro e w1 ⟨rfl, hw1⟩
  obtain rfl := hw1.symm
  rw [show (1 : Int) + 21 * ((4 : Nat) : Int) = 85 by decide]
  go_wp2_with fail
  refine (unhide HI).mono ?_
  rintro e w2 ⟨rfl, hw2⟩
  obtain rfl := hw2.symm
  rw [show (85 : Int) + ((6 : Nat) : Int) = 91 by decide]
  go_wp2
  go_ret
  exact ⟨rfl, B0⟩
end Go.Proofs.YtogfelpdgeionaaGreat.SnA
