/-
  Texts that belong together, one behind the other: QuD.
-/
import Derived.Test.YtogfelpdgeionaaGreatHbF
import Derived.Test.YtogfelpdgeionaaGreatHbE
import Derived.Shelf.Abstract

/-
  The queue's methods; what a step that is taken does; the store in memory of its own.
-/
namespace Go.Proofs.YtogfelpdgeionaaGreat.QuD
open Go.ChangeShapes Go.WideShapes Go.ChangeAt Go.RowKit Go.Shelf OkA Big Fl ImplB ImplF ImplS _root_.Go.Proofs.YtogfelpdgeionaaGreat.Own ImplT ImplU SpecA SpecB SpecC SpecD SpecW SpecF SpecG SpecH Ok2 Pl FindP SpecX SpecY ImplW ImplX ImplL Kp StA MpA StB StC StD StE StF StG FindL Gd LawU LawS LawV LawI QuA QuB QuC
set_option linter.unusedVariables false
set_option linter.unusedSimpArgs false
attribute [local go_sem ↓] Go.wp_at_zero Go.wp_at_succ

theorem some_any (Q n cap : Nat) (a : Option Addr) (w : World) (hc : w.cell? ⟨Q, 0, none⟩ = some (.slice a n cap)) :
    Calls Tryz.prog 97 #[.pointer (some ⟨Q, 0, none⟩)] w fun e w' => e = .returned (.bool (decide (0 < n))) ∧ w' = w := by
  by_cases h : 0 < n
  · have hi : (0 : Int) < (n : Int) := by omega
    rw [show decide (0 < n) = true by simpa using h]
    go_enter Tryz.func97, Tryz.ntmps97
    go_wp2
    go_ret
    exact ⟨by first | rfl | simp [hi], rfl⟩
  · obtain rfl : n = 0 := by omega
    go_enter Tryz.func97, Tryz.ntmps97
    go_wp2
    go_ret
    exact ⟨rfl, rfl⟩

def TkPost (w : World) (Q g o n cap : Nat) (v : Value) (e : Ending) (w' : World) : Prop := ∃ a', e = .returned v ∧ w' = w.setCell ⟨Q, 0, none⟩ (.slice a' n (cap - 1)) ∧ (0 < n → a' = some ⟨g, o + 1, none⟩)
set_option maxHeartbeats 1000000 in
theorem take_any (Q g o n cap : Nat) (f : Fn) (c : Array Value) (w : World) (hc : w.cell? ⟨Q, 0, none⟩ = some (.slice (some ⟨g, o, none⟩) (n + 1) cap)) (hf : w.frozen? ⟨Q, 0, none⟩ = false) (hcap : n + 1 ≤ cap) (hv : w.cell? ⟨g, o, none⟩ = some (.func f #[] c)) :
    Calls Tryz.prog 98 #[.pointer (some ⟨Q, 0, none⟩)] w fun e w' => TkPost w Q g o n cap (.func f #[] c) e w' := by
  have h1 : (1 : Int) ≤ ((n + 1 : Nat) : Int) := by omega
  have h0 : (0 : Int) < ((n + 1 : Nat) : Int) := by omega
  by_cases hc1 : cap = 1
  · subst hc1
    obtain rfl : n = 0 := by omega
    go_enter Tryz.func98, Tryz.ntmps98
    go_wp2
    go_ret
    exact ⟨_, rfl, rfl, fun h => by omega⟩
  · go_enter Tryz.func98, Tryz.ntmps98
    go_wp2
    go_ret
    exact ⟨_, rfl, rfl, fun _ => rfl⟩

/-! A step that is taken is done, or torn. -/
theorem doF1 {ks : List Bk} {x : Stp} {t : Bool} (h : x.kind = 1) : doF ks x t = ks := by unfold doF; rw [if_neg (by omega), if_neg (by omega)]
theorem doD1 {dk : List Int} {x : Stp} {t : Bool} (h : x.kind = 1) : doD dk x t = if t then dk else dk.set (x.addr - 1).toNat x.val := by unfold doD; rw [if_pos h]
theorem doF2 {ks : List Bk} {x : Stp} {t : Bool} (h : x.kind = 2) : doF ks x t = wiK ks x.blk.toNat t := by unfold doF; rw [if_pos h]; rfl
theorem doF3 {ks : List Bk} {x : Stp} {t : Bool} (h : x.kind = 3) : doF ks x t = wrK ks x.blk.toNat x.r.k x.r.s x.r.a x.r.v t := by unfold doF; rw [if_neg (by omega), if_pos h]; rfl
theorem doD23 {dk : List Int} {x : Stp} {t : Bool} (h : ¬ x.kind = 1) : doD dk x t = dk := by unfold doD; rw [if_neg h]
theorem stk1 {x : Stp} (h : stkB x = true) (hk : x.kind = 1) : 1 ≤ x.addr ∧ x.addr ≤ 6 := by
  unfold stkB at h; rw [if_pos hk] at h; simp only [Bool.and_eq_true] at h
  simpa [inB] using h.1.2
theorem stk2 {x : Stp} (h : stkB x = true) (hk : x.kind = 2 ∨ x.kind = 3) : ∃ k : Nat, k < 4 ∧ x.blk = (k : Int) ∧ x.blk.toNat = k := by
  have hb : inB x.blk 0 3 = true := by
    unfold stkB at h
    rcases hk with hk | hk
    · rw [if_neg (by omega), if_pos hk] at h; simp only [Bool.and_eq_true] at h; exact h.2
    · rw [if_neg (by omega), if_neg (by omega), if_pos hk] at h; simp only [Bool.and_eq_true] at h; exact h.1.2
  have : 0 ≤ x.blk ∧ x.blk ≤ 3 := by simpa [inB] using hb
  exact ⟨x.blk.toNat, by omega, by omega, rfl⟩
theorem ent1 : Enters Tryz.prog 239 := enters_of Tryz.func239 (by kernel_rfl) rfl
theorem ent2 : Enters Tryz.prog 241 := enters_of Tryz.func241 (by kernel_rfl) rfl
theorem ent3 : Enters Tryz.prog 243 := enters_of Tryz.func243 (by kernel_rfl) rfl
theorem wp_do {o : Oper} {a : Act} {w : World} {K : Act → World → Prop} {Q : Exit → Act → World → Prop} (t u : Operand) (tn : Bool) (ts : Array TypeId) (ho : o.op = .call { callee := .value t, args := #[u, .const (.bool tn)], argTypes := ts })
    (lo hi : Nat) (x : Stp) (v : Value) (ks : List Bk) (dk : List Int) (hv : a.eval t = v) (hu : a.eval u = .agg (ssC ks dk).toArray) (hD : DoAt w lo hi x v) (hx : stkB x = true) (hok : okB ks = true) (h6 : dk.length = 6)
    (h : ∀ w', Below w.heap.size w w' → K (a.put o.dst (.agg (ssC (doF ks x tn) (doD dk x tn)).toArray)) w') : o.wp Tryz.prog a w K Q := by
  rcases hD with ⟨hk, p, q, rfl, hp, hq, cp, cq⟩ | ⟨hk, p, rfl, hp, cp⟩ | ⟨hk, p, q, rfl, hp, hq, cp, cq⟩
  · have hrun : (execOp a.eval o).run Tryz.prog w = .ok (.enter 239 #[.agg (ssC ks dk).toArray, .bool tn, .pointer (some ⟨p, 0, none⟩), .pointer (some ⟨q, 0, none⟩)]) w := by
      have he := ent1 #[.agg (ssC ks dk).toArray, .bool tn, .pointer (some ⟨p, 0, none⟩), .pointer (some ⟨q, 0, none⟩)] w
      have hcn : a.eval (.const (.bool tn)) = .bool tn := rfl
      simp [execOp, ho, resolve, hv, hu, hcn, Deferred.ofValue, invoke, he, Result.andThen]
    unfold Oper.wp
    rw [hrun]
    refine (doDisk1_any ks hok dk h6 p q x.addr x.val (stk1 hx hk).1 (stk1 hx hk).2 tn w cp cq).mono ?_
    rintro e w' ⟨rfl, b⟩
    have := h w' b
    rw [doF1 hk, doD1 hk] at this
    exact this
  · obtain ⟨k, hk4, e1, e2⟩ := stk2 hx (.inl hk)
    rw [e1] at cp
    have hrun : (execOp a.eval o).run Tryz.prog w = .ok (.enter 241 #[.agg (ssC ks dk).toArray, .bool tn, .pointer (some ⟨p, 0, none⟩)]) w := by
      have he := ent2 #[.agg (ssC ks dk).toArray, .bool tn, .pointer (some ⟨p, 0, none⟩)] w
      have hcn : a.eval (.const (.bool tn)) = .bool tn := rfl
      simp [execOp, ho, resolve, hv, hu, hcn, Deferred.ofValue, invoke, he, Result.andThen]
    unfold Oper.wp
    rw [hrun]
    refine (doWipe1_any ks hok dk h6 p k hk4 tn w cp).mono ?_
    rintro e w' ⟨rfl, b⟩
    have := h w' b
    rw [doF2 hk, doD23 (by omega), e2] at this
    exact this
  · obtain ⟨k, hk4, e1, e2⟩ := stk2 hx (.inr hk)
    rw [e1] at cp
    have hrun : (execOp a.eval o).run Tryz.prog w = .ok (.enter 243 #[.agg (ssC ks dk).toArray, .bool tn, .pointer (some ⟨p, 0, none⟩), .pointer (some ⟨q, 0, none⟩)]) w := by
      have he := ent3 #[.agg (ssC ks dk).toArray, .bool tn, .pointer (some ⟨p, 0, none⟩), .pointer (some ⟨q, 0, none⟩)] w
      have hcn : a.eval (.const (.bool tn)) = .bool tn := rfl
      simp [execOp, ho, resolve, hv, hu, hcn, Deferred.ofValue, invoke, he, Result.andThen]
    unfold Oper.wp
    rw [hrun]
    refine (doWrite1_any ks hok dk h6 p q k hk4 x.r tn w cp cq).mono ?_
    rintro e w' ⟨rfl, b⟩
    have := h w' b
    rw [doF3 hk, doD23 (by omega), e2] at this
    exact this

/-! The store in memory of its own. -/
def SoPost (w : World) (ks : List Bk) (dk : List Int) (e : Ending) (w' : World) : Prop := ∃ g G d, e = .returned (.agg #[.slice (some ⟨g, 0, none⟩) 4 4, .slice (some ⟨d, 0, none⟩) 6 6]) ∧ OwnS w' w.heap.size g G d ks dk ∧ Below w.heap.size w w'
set_option maxRecDepth 100000 in
set_option maxHeartbeats 2000000 in
theorem store_any (ks : List Bk) (hk4 : ks.length = 4) (hkF : Fours ks) (dk : List Int) (h6 : dk.length = 6) (w : World) :
    Calls Tryz.prog 99 #[.agg (ssC ks dk).toArray] w fun e w' => SoPost w ks dk e w' := by
  have cA := (CsAt.new w (ssC ks dk) 125).alloc (by simp) (.cells #[.slice none 0 0, .slice none 0 0] 26)
  have cR := store_box (w.alloc (.cells (ssC ks dk).toArray 125)) (.slice none 0 0) (.slice none 0 0)
  rw [World.size_alloc] at cR
  have B0 : Below w.heap.size w ((w.alloc (.cells (ssC ks dk).toArray 125)).alloc (.cells #[.slice none 0 0, .slice none 0 0] 26)) := ((Below.refl _ _).alloc (Nat.le_refl _) _).alloc (by simp) _
  have s0 : w.heap.size + 2 ≤ ((w.alloc (.cells (ssC ks dk).toArray 125)).alloc (.cells #[.slice none 0 0, .slice none 0 0] 26)).heap.size := by simp
  have HSF := hide (size_fsl hkF hk4)
  have HSD := hide (size_dk h6)
  have HLI := hide (list_any ks hk4 hkF)
  have HDL := hide (dlist_any dk h6)
  have HSS := hide (show (Tryz.prog.info? 26).map (·.size) = some 2 by kernel_rfl)
  have HB := hide (fun (g d : Nat) => (show Tryz.prog.built 26 [(0, .slice (some ⟨g, 0, none⟩) 4 4), (1, .slice (some ⟨d, 0, none⟩) 6 6)] = some #[.slice (some ⟨g, 0, none⟩) 4 4, .slice (some ⟨d, 0, none⟩) 6 6] by kernel_rfl))
  go_enter Tryz.func99, Tryz.ntmps99
  go_upto_region 1 with (refine wpList_box_big rfl _ _ rfl (ssC ks dk).toArray rfl ?_)
  generalize (w.alloc (.cells (ssC ks dk).toArray 125)).alloc (.cells #[.slice none 0 0, .slice none 0 0] 26) = w1 at *
  refine wp_region_noPanic ?_
  refine wp_region_held_drew (S := fun w' => CsAt w' w.heap.size (ssC ks dk) ∧ w.heap.size + 2 ≤ w'.heap.size) (by kernel_rfl) (⟨⟨fun j v hv => cA.cells j v hv, fun j hj => cA.free j hj⟩, s0⟩) (fun hHeld => ?_)
  refine takeL 0 (.pointer (some ⟨w.heap.size, 0, none⟩)) rfl (by kernel_rfl) (by kernel_rfl) (by kernel_rfl) (fun _ _ _ h => h) (Or.inl ⟨rfl, fun w9 hSw => by go_simp⟩) hHeld ?_
  try simp only [Act.put, List.setIfInBounds_toArray, List.set_cons_zero, List.set_cons_succ]
  refine takeL 1 (_) rfl (by kernel_rfl) (by kernel_rfl) (by kernel_rfl) (fun _ _ _ h => h) (yieldsIf_load_mid rfl 109 _ rfl w.heap.size 0 rfl (fsC ks) _ (fun _ h => ss_flash h.1.cells) Tryz.underlying109 rfl (unhide HSF)) hHeld ?_
  try simp only [Act.put, List.setIfInBounds_toArray, List.set_cons_zero, List.set_cons_succ]
  refine takeL 3 (.pointer (some ⟨w.heap.size, 84, none⟩)) rfl (by kernel_rfl) (by kernel_rfl) (by kernel_rfl) (fun _ _ _ h => h) (Or.inl ⟨rfl, fun w9 hSw => by go_simp⟩) hHeld ?_
  try simp only [Act.put, List.setIfInBounds_toArray, List.set_cons_zero, List.set_cons_succ]
  refine takeL 4 (_) rfl (by kernel_rfl) (by kernel_rfl) (by kernel_rfl) (fun _ _ _ h => h) (yieldsIf_load_mid rfl 112 _ rfl w.heap.size 84 rfl (isC dk) _ (fun _ h => ss_disk hk4 hkF h.1.cells) Tryz.underlying112 rfl (unhide HSD)) hHeld ?_
  try simp only [Act.put, List.setIfInBounds_toArray, List.set_cons_zero, List.set_cons_succ]
  have cRd : CsAt w1.drew (w.heap.size + 1) [.slice none 0 0, .slice none 0 0] := ⟨fun j v hv => cR.cells j v hv, fun j hj => cR.free j hj⟩
  have B1 := B0.drew
  have s1 : w.heap.size + 2 ≤ w1.drew.heap.size := s0
  clear cA cR B0 s0
  generalize w1.drew = w2 at *
  refine oneL 2 rfl (by kernel_rfl) rfl (fun K hK => ?_)
  go_simp
  refine (unhide HLI _).mono ?_
  rintro e w3 ⟨g, G, rfl, o3, b3⟩
  go_wp2_with fail
  have q3 := b3.size
  refine hK.out _ _ ⟨hHeld.1.below b3 (by omega), by omega⟩ (fun hHeld3 => ?_)
  clear hK K hHeld
  try simp only [Act.put, List.setIfInBounds_toArray, List.set_cons_zero, List.set_cons_succ]
  refine oneL 5 rfl (by kernel_rfl) rfl (fun K hK => ?_)
  go_simp
  refine (unhide HDL _).mono ?_
  rintro e w4 ⟨rfl, c4, q4, b4⟩
  go_wp2_with fail
  refine hK.out _ _ ⟨hHeld3.1.below b4 (by omega), by omega⟩ (fun hHeld => ?_)
  clear hK K hHeld3
  try simp only [Act.put, List.setIfInBounds_toArray, List.set_cons_zero, List.set_cons_succ]
  have S4 : OwnS w4 w.heap.size g G (w3.heap.size + 1) ks dk := ⟨by rw [hk4]; exact (o3.below b4 (Nat.le_refl _)).mono (by omega), c4, by omega, q4, fun hm => by have := o3.hi _ hm; omega⟩
  have C4 := (cRd.below b3 (by omega)).below b4 (by omega)
  have B4 := (B1.trans (b3.mono B1.size)).trans (b4.mono (by omega))
  have hl4 : ∀ x ∈ (w3.heap.size + 1) :: g :: G, w.heap.size + 2 ≤ x := fun x hx => by rcases List.mem_cons.1 hx with rfl | hx; omega; have := o3.lo x hx; omega
  clear cRd B1 s1 o3 b3 b4 c4
  refine oneL 6 rfl (by kernel_rfl) rfl (fun K hK => ?_)
  refine wp_build_two 26 _ _ rfl (.slice (some ⟨g, 0, none⟩) 4 4) (.slice (some ⟨w3.heap.size + 1, 0, none⟩) 6 6) rfl rfl [.slice (some ⟨g, 0, none⟩) 4 4, .slice (some ⟨w3.heap.size + 1, 0, none⟩) 6 6].toArray (unhide HB g (w3.heap.size + 1)) ?_
  refine hK.out _ _ hHeld (fun _ => ?_)
  clear hK K
  try simp only [Act.put, List.setIfInBounds_toArray, List.set_cons_zero, List.set_cons_succ]
  have p1 := C4.put [.slice (some ⟨g, 0, none⟩) 4 4, .slice (some ⟨w3.heap.size + 1, 0, none⟩) 6 6] rfl
  have oz : Only [w.heap.size + 1] w4 (w4.setCells (w.heap.size + 1) 0 [.slice (some ⟨g, 0, none⟩) 4 4, .slice (some ⟨w3.heap.size + 1, 0, none⟩) 6 6]) := (Only.refl _ _).setCells (by simp) 0 _
  have SZ := keptS S4 oz (by rw [size_setCells]; exact Nat.le_refl _) (fun x hx => by have := hl4 x hx; simp; omega)
  have BZ := below_setCells (w.heap.size + 1) (show w.heap.size ≤ w.heap.size + 1 by omega) [.slice (some ⟨g, 0, none⟩) 4 4, .slice (some ⟨w3.heap.size + 1, 0, none⟩) 6 6] 0 _ B4
  have cZ := hHeld.1.other (show w.heap.size ≠ w.heap.size + 1 by omega) 0 [.slice (some ⟨g, 0, none⟩) 4 4, .slice (some ⟨w3.heap.size + 1, 0, none⟩) 6 6]
  refine oneL 7 rfl (by kernel_rfl) rfl (fun K hK => ?_)
  refine wp_store_mid 26 _ _ rfl (w.heap.size + 1) 0 [.slice (some ⟨g, 0, none⟩) 4 4, .slice (some ⟨w3.heap.size + 1, 0, none⟩) 6 6].toArray rfl rfl C4.free (unhide HSS) (by kernel_rfl) ?_
  refine hK.out _ _ ⟨cZ, by rw [size_setCells]; exact hHeld.2⟩ (fun _ => ?_)
  clear hK K
  try simp only [Act.put, List.setIfInBounds_toArray, List.set_cons_zero, List.set_cons_succ]
  refine wpAnyH_done (by kernel_rfl) ?_ _
  refine NoPanic.normal ?_
  go_wp2_with fail
  refine bodyPost_ret (res_cell_mid Tryz.results99 _ _ (w.heap.size + 1) [.slice (some ⟨g, 0, none⟩) 4 4, .slice (some ⟨w3.heap.size + 1, 0, none⟩) 6 6] _ rfl p1.cells Tryz.underlying26 rfl (by kernel_rfl)) rfl ?_
  exact ⟨g, G, w3.heap.size + 1, rfl, SZ, BZ⟩
end Go.Proofs.YtogfelpdgeionaaGreat.QuD
