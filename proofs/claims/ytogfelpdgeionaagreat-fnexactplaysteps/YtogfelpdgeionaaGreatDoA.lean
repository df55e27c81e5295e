/-
  The specification's doing of a step, in place, on a store that it owns.
-/
import Derived.Test.YtogfelpdgeionaaGreatGbG
import Derived.Deep.Cut
namespace Go.Proofs.YtogfelpdgeionaaGreat.DoA
open Go.ChangeShapes Go.WideShapes Go.ChangeAt Go.RowKit Go.Shelf OkA Big Fl ImplB ImplF ImplS _root_.Go.Proofs.YtogfelpdgeionaaGreat.Own ImplT ImplU SpecA SpecB SpecC SpecD SpecW SpecF SpecG SpecH Ok2 Pl FindP SpecX ImplL FindN FindL FindV Kp StA RmA WrA FlA
set_option linter.unusedVariables false
set_option linter.unusedSimpArgs false
attribute [local go_sem ↓] Go.wp_at_zero Go.wp_at_succ

/-- A store in rows of its own. -/
structure St (w : World) (lo g d : Nat) (G : List Nat) (bs : List Bk) (dk : List Int) : Prop where
  own : Own.Own w lo g G bs 4
  disk : CsAt w d (isC dk)
  dlo : lo ≤ d
  dhi : d < w.heap.size
  dn : d ∉ g :: G
  six : dk.length = 6
theorem own_kept {w w' : World} {lo g n : Nat} {G : List Nat} {bs : List Bk} (h : Own.Own w lo g G bs n) {L : List Nat} (k : Kept L w w') (hL : ∀ x ∈ g :: G, x ∉ L) : Own.Own w' lo g G bs n := by
  have hg := h.hi g (by simp)
  have gL := hL g (by simp)
  have hG : ∀ i (hi : i < bs.length), G[i]'(by have := h.len; omega) < w.heap.size ∧ G[i]'(by have := h.len; omega) ∉ L := fun i hi => ⟨h.hi _ (by simp), hL _ (by simp)⟩
  refine ⟨h.len, h.nd, h.lo, fun x hx => Nat.lt_of_lt_of_le (h.hi x hx) k.size, h.fit, k.there h.room hg gL, fun i hi => ?_, fun i hi => ?_, fun i hi => k.range (h.pgs i hi) (hG i hi).1 (hG i hi).2, fun i hi => k.there (h.free i hi) (hG i hi).1 (hG i hi).2, fun i hi a m c hc => h.caps i hi a m c (by rw [k.cell _ hg gL] at hc; exact hc)⟩
  · obtain ⟨cap, hc⟩ := h.out i hi
    exact ⟨cap, by rw [k.cell _ hg gL]; exact hc⟩
  · rw [k.cell _ hg gL]; exact h.worn i hi
theorem csAt_kept {w w' : World} {b : Nat} {cs : List Value} (h : CsAt w b cs) {L : List Nat} (k : Kept L w w') (hb : b < w.heap.size) (hL : b ∉ L) : CsAt w' b cs := ⟨k.range h.cells hb hL, k.there h.free hb hL⟩
theorem St.kept {w w' : World} {lo g d : Nat} {G : List Nat} {bs : List Bk} {dk : List Int} (h : St w lo g d G bs dk) {L : List Nat} (k : Kept L w w') (hL : ∀ x ∈ d :: g :: G, x ∉ L) : St w' lo g d G bs dk :=
  ⟨own_kept h.own k (fun x hx => hL x (by simp [hx])), csAt_kept h.disk k h.dhi (hL d (by simp)), h.dlo, Nat.lt_of_lt_of_le h.dhi k.size, h.dn, h.six⟩
theorem St.below {w w' : World} {lo g d : Nat} {G : List Nat} {bs : List Bk} {dk : List Int} (h : St w lo g d G bs dk) (hb : Below w.heap.size w w') : St w' lo g d G bs dk := h.kept (L := []) (Kept.of hb) (fun _ _ => by simp)
theorem St.all {w : World} {lo g d : Nat} {G : List Nat} {bs : List Bk} {dk : List Int} (h : St w lo g d G bs dk) : ∀ x ∈ d :: g :: G, lo ≤ x ∧ x < w.heap.size := fun x hx => by
  rcases List.mem_cons.1 hx with rfl | hx
  · exact ⟨h.dlo, h.dhi⟩
  · exact ⟨h.own.lo x hx, h.own.hi x hx⟩
/-- Blocks that were made later are none of a store's. -/
theorem St.late {w : World} {lo g d : Nat} {G : List Nat} {bs : List Bk} {dk : List Int} (h : St w lo g d G bs dk) {L : List Nat} (hL : ∀ x ∈ L, w.heap.size ≤ x) : ∀ x ∈ d :: g :: G, x ∉ L := fun x hx hm => by
  have h1 := (h.all x hx).2
  have h2 := hL x hm
  omega
theorem kept_cells (w : World) (b o : Nat) (vs : List Value) : Kept [b] w (w.setCells b o vs) := (Kept.refl [b] w).setCells (.inl (by simp)) o vs
theorem kept_cell (w : World) (b o : Nat) (v : Value) : Kept [b] w (w.setCell ⟨b, o, none⟩ v) := (Kept.refl [b] w).setCell (p := ⟨b, o, none⟩) (.inl (by simp)) v
theorem there_cell {w : World} {b o n : Nat} (h : w.there b o n) (b' o' : Nat) (v : Value) : (w.setCell ⟨b', o', none⟩ v).there b o n := by
  have := World.there_setCells h b' o' [v]
  exact this
def sV (g d cap dcap : Nat) : Value := .agg #[.slice (some ⟨g, 0, none⟩) 4 cap, .slice (some ⟨d, 0, none⟩) 6 dcap]
def DoPost (w : World) (lo g d cap dcap : Nat) (G : List Nat) (bs : List Bk) (dk : List Int) (e : Ending) (w' : World) : Prop :=
  e = .returned (.agg #[.slice (some ⟨g, 0, none⟩) 4 cap, .slice (some ⟨d, 0, none⟩) 6 dcap]) ∧ St w' lo g d G bs dk ∧ Kept (d :: g :: G) w w'

set_option maxRecDepth 100000 in
set_option maxHeartbeats 2000000 in
theorem do_any (lo g d cap dcap : Nat) (G : List Nat) (bs : List Bk) (dk : List Int) (x : Stp) (torn : Bool) (w : World) (hS : St w lo g d G bs dk) (hok : okB bs = true) (hx : stpB x = true) :
    Calls Tryz.prog 182 #[.agg #[.slice (some ⟨g, 0, none⟩) 4 cap, .slice (some ⟨d, 0, none⟩) 6 dcap], .agg #[.int .i64 x.kind, .int .i64 x.addr, .int .i64 x.val, .int .i64 x.blk, .int .i64 x.r.k, .int .i64 x.r.s, .int .i64 x.r.a, .int .i64 x.r.v], .bool torn] w fun e w' => DoPost w lo g d cap dcap G (doF bs x torn) (doD dk x torn) e w' := by
  have b1 : Below w.heap.size w (((w.alloc (.cells #[.slice (some ⟨g, 0, none⟩) 4 cap, .slice (some ⟨d, 0, none⟩) 6 dcap] 26)).alloc (.cells (stC x).toArray 50)).alloc (.cells #[.slice none 0 0, .slice none 0 0] 26)) := (((Below.refl _ _).alloc (Nat.le_refl _) _).alloc (by simp) _).alloc (by simp; omega) _
  have cS : CsAt (((w.alloc (.cells #[.slice (some ⟨g, 0, none⟩) 4 cap, .slice (some ⟨d, 0, none⟩) 6 dcap] 26)).alloc (.cells (stC x).toArray 50)).alloc (.cells #[.slice none 0 0, .slice none 0 0] 26)) w.heap.size [.slice (some ⟨g, 0, none⟩) 4 cap, .slice (some ⟨d, 0, none⟩) 6 dcap] :=
    ((store_box w (.slice (some ⟨g, 0, none⟩) 4 cap) (.slice (some ⟨d, 0, none⟩) 6 dcap)).alloc (by simp) _).alloc (by simp; omega) _
  have cX : CsAt (((w.alloc (.cells #[.slice (some ⟨g, 0, none⟩) 4 cap, .slice (some ⟨d, 0, none⟩) 6 dcap] 26)).alloc (.cells (stC x).toArray 50)).alloc (.cells #[.slice none 0 0, .slice none 0 0] 26)) (w.heap.size + 1) (stC x) := by
    have := (CsAt.new (w.alloc (.cells #[.slice (some ⟨g, 0, none⟩) 4 cap, .slice (some ⟨d, 0, none⟩) 6 dcap] 26)) (stC x) 50).alloc (by simp) (.cells #[.slice none 0 0, .slice none 0 0] 26)
    rwa [World.size_alloc] at this
  have cR : CsAt (((w.alloc (.cells #[.slice (some ⟨g, 0, none⟩) 4 cap, .slice (some ⟨d, 0, none⟩) 6 dcap] 26)).alloc (.cells (stC x).toArray 50)).alloc (.cells #[.slice none 0 0, .slice none 0 0] 26)) (w.heap.size + 1 + 1) [.slice none 0 0, .slice none 0 0] := by
    have := CsAt.new ((w.alloc (.cells #[.slice (some ⟨g, 0, none⟩) 4 cap, .slice (some ⟨d, 0, none⟩) 6 dcap] 26)).alloc (.cells (stC x).toArray 50)) [.slice none 0 0, .slice none 0 0] 26
    rwa [World.size_alloc, World.size_alloc] at this
  have s1 : (((w.alloc (.cells #[.slice (some ⟨g, 0, none⟩) 4 cap, .slice (some ⟨d, 0, none⟩) 6 dcap] 26)).alloc (.cells (stC x).toArray 50)).alloc (.cells #[.slice none 0 0, .slice none 0 0] 26)).heap.size = w.heap.size + 3 := by simp
  rw [show (stC x).toArray = #[.int .i64 x.kind, .int .i64 x.addr, .int .i64 x.val, .int .i64 x.blk, .int .i64 x.r.k, .int .i64 x.r.s, .int .i64 x.r.a, .int .i64 x.r.v] from rfl] at b1 cS cX cR s1
  have S1 := hS.below b1
  have HF : Hid (doF bs x torn = if x.kind = 2 then wiF bs x.blk.toNat torn else if x.kind = 3 then wrF bs x.blk.toNat x.r torn else bs) := rfl
  have HD : Hid (doD dk x torn = if x.kind = 1 then (if torn then dk else dk.set (x.addr - 1).toNat x.val) else dk) := rfl
  have k1 : Kept [] w (((w.alloc (.cells #[.slice (some ⟨g, 0, none⟩) 4 cap, .slice (some ⟨d, 0, none⟩) 6 dcap] 26)).alloc (.cells #[.int .i64 x.kind, .int .i64 x.addr, .int .i64 x.val, .int .i64 x.blk, .int .i64 x.r.k, .int .i64 x.r.s, .int .i64 x.r.a, .int .i64 x.r.v] 50)).alloc (.cells #[.slice none 0 0, .slice none 0 0] 26)) := Kept.of b1
  have hall := hS.all
  go_enter Tryz.func182, Tryz.ntmps182
  go_upto_region 1 with fail
  generalize ((w.alloc (.cells #[.slice (some ⟨g, 0, none⟩) 4 cap, .slice (some ⟨d, 0, none⟩) 6 dcap] 26)).alloc (.cells #[.int .i64 x.kind, .int .i64 x.addr, .int .i64 x.val, .int .i64 x.blk, .int .i64 x.r.k, .int .i64 x.r.s, .int .i64 x.r.a, .int .i64 x.r.v] 50)).alloc (.cells #[.slice none 0 0, .slice none 0 0] 26) = w1 at *
  have z0 := cX.cell 0 _ rfl
  have z1 := cX.cell 1 _ rfl
  have z2 := cX.cell 2 _ rfl
  have z3 := cX.cell 3 _ rfl
  have z4 := cX.cell 4 _ rfl
  have z5 := cX.cell 5 _ rfl
  have z6 := cX.cell 6 _ rfl
  have z7 := cX.cell 7 _ rfl
  have HX := hide hx
  have HOK := hide hok
  clear hx hok b1 hS
  by_cases t1 : x.kind = 1
  · have q1 : (x.kind == 1) = true := by simpa using t1
    have HE1 : Hid (doF bs x torn = bs) := by show _ = _; rw [unhide HF, if_neg (by omega), if_neg (by omega)]
    have hx1 : 1 ≤ x.addr ∧ x.addr ≤ 6 := by have hx := unhide HX; unfold stpB at hx; rw [if_pos t1] at hx; simpa [inB] using hx
    cases torn
    · obtain ⟨n, hn⟩ : ∃ n : Nat, x.addr = (n : Int) + 1 := ⟨(x.addr - 1).toNat, by omega⟩
      have hn6 : n < 6 := by omega
      have HE2 : Hid (doD dk x false = dk.set n x.val) := by
        show _ = _
        rw [unhide HD, if_pos t1, if_neg (by simp), show (x.addr - 1).toNat = n by omega]
      rw [hn] at z1
      clear t1 hx1 hn z3 z4 z5 z6 z7
      have a1 := cS.cell 1 _ rfl
      have hnl : n < (isC dk).length := by rw [len_isC, S1.six]; exact hn6
      obtain ⟨vo, hvo⟩ : ∃ v, w1.cell? ⟨d, n, none⟩ = some v := ⟨_, S1.disk.cell n _ (List.getElem?_eq_getElem hnl)⟩
      have fo := S1.disk.frozen n hnl
      have hn0 : (0 : Int) ≤ (n : Int) := by omega
      have hnk : (n : Int) < 6 := by omega
      have e2 : ((n : Int) + 1 - 1) = (n : Int) := by omega
      have S2 : St (w1.setCell ⟨d, n, none⟩ (.int .i64 x.val)) lo g d G bs (dk.set n x.val) := by
        have kd := kept_cell w1 d n (.int .i64 x.val)
        refine ⟨own_kept S1.own kd (fun y hy => by simp; exact fun e => S1.dn (e ▸ hy)), ?_, S1.dlo, Nat.lt_of_lt_of_le S1.dhi kd.size, S1.dn, by rw [List.length_set]; exact S1.six⟩
        refine ⟨fun j v hv => ?_, fun j hj => ?_⟩
        · rw [Nat.zero_add]
          have hjl : j < dk.length := by
            have := (List.getElem?_eq_some_iff.1 hv).1
            rw [len_isC, List.length_set] at this; exact this
          by_cases e : j = n
          · subst e
            have : v = .int .i64 x.val := by simp [isC, hjl] at hv; exact hv.symm
            rw [this]
            exact World.cell?_setCell_same' _ _ _ (by rw [hvo]; rfl)
          · rw [World.cell?_setCell_other _ _ _ _ (by intro q; cases q; exact e rfl)]
            have hv' : (isC dk)[j]? = some v := by
              unfold isC at hv ⊢
              rw [List.getElem?_map] at hv ⊢
              rw [List.getElem?_set_ne (by omega)] at hv
              exact hv
            exact S1.disk.cell j v hv'
        · have hj' : j < (isC dk).length := by rw [len_isC] at hj ⊢; rw [List.length_set] at hj; exact hj
          have := S1.disk.free j hj'
          exact there_cell S1.disk.free d n (.int .i64 x.val) j hj'
      have kd : Kept (d :: g :: G) w (w1.setCell ⟨d, n, none⟩ (.int .i64 x.val)) := (k1.sub (fun _ h => by cases h)).then (kept_cell w1 d n (.int .i64 x.val)) (fun y hy => by simp at hy; subst hy; left; simp)
      have cS2 := csAt_kept cS (kept_cell w1 d n (.int .i64 x.val)) (by omega) (by simp; have := (hall d (by simp)).2; omega)
      have cR2 := csAt_kept cR (kept_cell w1 d n (.int .i64 x.val)) (by omega) (by simp; have := (hall d (by simp)).2; omega)
      have s2 : (w1.setCell ⟨d, n, none⟩ (.int .i64 x.val)).heap.size = w.heap.size + 3 := by rw [← s1]; simp [World.setCell]
      go_upto_region 9 with fail
      generalize w1.setCell ⟨d, n, none⟩ (.int .i64 x.val) = w2 at *
      clear hvo fo a1
      have d0 := cR2.cell 0 _ rfl
      have d1 := cR2.cell 1 _ rfl
      have f0 := cR2.frozen 0 (by simp)
      have f1 := cR2.frozen 1 (by simp)
      have y0 := cS2.cell 0 _ rfl
      have y1 := cS2.cell 1 _ rfl
      have p1 := cR2.put [.slice (some ⟨g, 0, none⟩) 4 cap, .slice (some ⟨d, 0, none⟩) 6 dcap] rfl
      have kz := kept_cells w2 (w.heap.size + 1 + 1) 0 [.slice (some ⟨g, 0, none⟩) 4 cap, .slice (some ⟨d, 0, none⟩) 6 dcap]
      have SZ := (S2).kept kz (fun y hy => by have := (hall y hy).2; simp; omega)
      have KZ : Kept (d :: g :: G) w (w2.setCells (w.heap.size + 1 + 1) 0 [.slice (some ⟨g, 0, none⟩) 4 cap, .slice (some ⟨d, 0, none⟩) 6 dcap]) := (kd).then kz (fun y hy => by simp at hy; subst hy; right; omega)
      go_wp2
      refine bodyPost_ret (res_cell_mid Tryz.results182 _ _ (w.heap.size + 1 + 1) [.slice (some ⟨g, 0, none⟩) 4 cap, .slice (some ⟨d, 0, none⟩) 6 dcap] _ rfl p1.cells Tryz.underlying26 rfl (by kernel_rfl)) rfl ?_
      exact ⟨rfl, by rw [unhide HE1, unhide HE2]; exact SZ, KZ⟩
    · have HE2 : Hid (doD dk x true = dk) := by show _ = _; rw [unhide HD, if_pos t1, if_pos rfl]
      clear t1 hx1 z1 z2 z3 z4 z5 z6 z7
      have d0 := cR.cell 0 _ rfl
      have d1 := cR.cell 1 _ rfl
      have f0 := cR.frozen 0 (by simp)
      have f1 := cR.frozen 1 (by simp)
      have y0 := cS.cell 0 _ rfl
      have y1 := cS.cell 1 _ rfl
      have p1 := cR.put [.slice (some ⟨g, 0, none⟩) 4 cap, .slice (some ⟨d, 0, none⟩) 6 dcap] rfl
      have kz := kept_cells w1 (w.heap.size + 1 + 1) 0 [.slice (some ⟨g, 0, none⟩) 4 cap, .slice (some ⟨d, 0, none⟩) 6 dcap]
      have SZ := (S1).kept kz (fun y hy => by have := (hall y hy).2; simp; omega)
      have KZ : Kept (d :: g :: G) w (w1.setCells (w.heap.size + 1 + 1) 0 [.slice (some ⟨g, 0, none⟩) 4 cap, .slice (some ⟨d, 0, none⟩) 6 dcap]) := (k1.sub (fun _ h => by cases h)).then kz (fun y hy => by simp at hy; subst hy; right; omega)
      go_wp2
      refine bodyPost_ret (res_cell_mid Tryz.results182 _ _ (w.heap.size + 1 + 1) [.slice (some ⟨g, 0, none⟩) 4 cap, .slice (some ⟨d, 0, none⟩) 6 dcap] _ rfl p1.cells Tryz.underlying26 rfl (by kernel_rfl)) rfl ?_
      exact ⟨rfl, by rw [unhide HE1, unhide HE2]; exact SZ, KZ⟩
  · have q1 : (x.kind == 1) = false := by simpa using t1
    have HE2 : Hid (doD dk x torn = dk) := by show _ = _; rw [unhide HD, if_neg t1]
    by_cases t2 : x.kind = 2
    · have q2 : (x.kind == 2) = true := by simpa using t2
      have hx1 : 0 ≤ x.blk ∧ x.blk ≤ 3 := by have hx := unhide HX; unfold stpB at hx; rw [if_neg t1, if_pos t2] at hx; simpa [inB] using hx
      obtain ⟨k, hk⟩ : ∃ k : Nat, x.blk = (k : Int) := ⟨x.blk.toNat, by omega⟩
      have hk4 : k < 4 := by omega
      have HE1 : Hid (doF bs x torn = wiF bs k torn) := by show _ = _; rw [unhide HF, if_pos t2, show x.blk.toNat = k by omega]
      rw [hk] at z3
      clear t1 t2 hx1 hk z1 z2 z4 z5 z6 z7
      have a0 := cS.cell 0 _ rfl
      go_wp2_with fail
      refine (wipe_any lo g cap G bs k torn w1 S1.own (unhide HOK) hk4).mono ?_
      rintro e w2 ⟨rfl, o2, k2⟩
      have o2' : Own.Own w2 lo g G (wiF bs k torn) 4 := by unfold wiF; exact o2
      have hd2 : d ∉ g :: G := S1.dn
      have S2 : St w2 lo g d G (wiF bs k torn) dk := ⟨o2', csAt_kept S1.disk k2 S1.dhi hd2, S1.dlo, Nat.lt_of_lt_of_le S1.dhi k2.size, hd2, S1.six⟩
      have cS2 := csAt_kept cS k2 (by omega) (fun hm => by have := (hall _ (List.mem_cons_of_mem _ hm)).2; omega)
      have cR2 := csAt_kept cR k2 (by omega) (fun hm => by have := (hall _ (List.mem_cons_of_mem _ hm)).2; omega)
      have K2 : Kept (d :: g :: G) w w2 := (k1.sub (fun _ h => by cases h)).then k2 (fun y hy => .inl (List.mem_cons_of_mem _ hy))
      have s2 : w.heap.size + 3 ≤ w2.heap.size := by have := k2.size; omega
      clear a0 o2 o2' k2 S1 cS cR z0 z3
      generalize wiF bs k torn = bs2 at *
      generalize (!wiN bs k) = fl at *
      have a0 := cS2.cell 0 _ rfl
      have g0 := cS2.frozen 0 (by simp)
      have kc := kept_cell w2 w.heap.size 0 (.slice (some ⟨g, 0, none⟩) 4 cap)
      have S3 := S2.kept kc (fun y hy => by have := (hall y hy).2; simp; omega)
      have K3 := K2.then kc (fun y hy => by simp at hy; subst hy; right; exact Nat.le_refl _)
      have cR3 := csAt_kept cR2 kc (by omega) (by simp; omega)
      have cS3 : CsAt (w2.setCell ⟨w.heap.size, 0, none⟩ (.slice (some ⟨g, 0, none⟩) 4 cap)) w.heap.size [.slice (some ⟨g, 0, none⟩) 4 cap, .slice (some ⟨d, 0, none⟩) 6 dcap] := by
        refine ⟨fun j v hv => ?_, fun j hj => ?_⟩
        · rw [Nat.zero_add]
          match j, hv with
          | 0, hv => (obtain rfl : v = .slice (some ⟨g, 0, none⟩) 4 cap := by simpa using hv.symm); exact World.cell?_setCell_same' _ _ _ (by rw [a0]; rfl)
          | 1, hv => rw [World.cell?_setCell_other _ _ _ _ (by intro q; cases q)]; exact cS2.cell 1 v hv
          | n + 2, hv => simp at hv
        · exact there_cell cS2.free w.heap.size 0 (.slice (some ⟨g, 0, none⟩) 4 cap) j hj
      have s3 : w.heap.size + 3 ≤ (w2.setCell ⟨w.heap.size, 0, none⟩ (.slice (some ⟨g, 0, none⟩) 4 cap)).heap.size := Nat.le_trans s2 kc.size
      go_upto_region 9 with fail
      generalize w2.setCell ⟨w.heap.size, 0, none⟩ (.slice (some ⟨g, 0, none⟩) 4 cap) = w3 at *
      clear a0 g0 S2 K2 cR2 cS2 kc
      have d0 := cR3.cell 0 _ rfl
      have d1 := cR3.cell 1 _ rfl
      have f0 := cR3.frozen 0 (by simp)
      have f1 := cR3.frozen 1 (by simp)
      have y0 := cS3.cell 0 _ rfl
      have y1 := cS3.cell 1 _ rfl
      have p1 := cR3.put [.slice (some ⟨g, 0, none⟩) 4 cap, .slice (some ⟨d, 0, none⟩) 6 dcap] rfl
      have kz := kept_cells w3 (w.heap.size + 1 + 1) 0 [.slice (some ⟨g, 0, none⟩) 4 cap, .slice (some ⟨d, 0, none⟩) 6 dcap]
      have SZ := (S3).kept kz (fun y hy => by have := (hall y hy).2; simp; omega)
      have KZ : Kept (d :: g :: G) w (w3.setCells (w.heap.size + 1 + 1) 0 [.slice (some ⟨g, 0, none⟩) 4 cap, .slice (some ⟨d, 0, none⟩) 6 dcap]) := (K3).then kz (fun y hy => by simp at hy; subst hy; right; omega)
      go_wp2
      refine bodyPost_ret (res_cell_mid Tryz.results182 _ _ (w.heap.size + 1 + 1) [.slice (some ⟨g, 0, none⟩) 4 cap, .slice (some ⟨d, 0, none⟩) 6 dcap] _ rfl p1.cells Tryz.underlying26 rfl (by kernel_rfl)) rfl ?_
      exact ⟨rfl, by rw [unhide HE1, unhide HE2]; exact SZ, KZ⟩
    · have q2 : (x.kind == 2) = false := by simpa using t2
      by_cases t3 : x.kind = 3
      · have q3 : (x.kind == 3) = true := by simpa using t3
        have hx1 : 0 ≤ x.blk ∧ x.blk ≤ 3 := by
          have hx := unhide HX; unfold stpB at hx; rw [if_neg t1, if_neg t2, if_pos t3, Bool.and_eq_true] at hx; simpa [inB] using hx.1
        obtain ⟨k, hk⟩ : ∃ k : Nat, x.blk = (k : Int) := ⟨x.blk.toNat, by omega⟩
        have hk4 : k < 4 := by omega
        have HE1 : Hid (doF bs x torn = wrF bs k x.r torn) := by show _ = _; rw [unhide HF, if_neg t2, if_pos t3, show x.blk.toNat = k by omega]
        rw [hk] at z3
        clear t1 t2 t3 hx1 hk z1 z2
        have a0 := cS.cell 0 _ rfl
        go_wp2_with fail
        refine (write_any lo g cap G bs k torn x.r.k x.r.s x.r.a x.r.v w1 S1.own (unhide HOK) hk4).mono ?_
        rintro e w2 ⟨rfl, o2, k2⟩
        have o2' : Own.Own w2 lo g G (wrF bs k x.r torn) 4 := by unfold wrF; exact o2
        have hd2 : d ∉ g :: G := S1.dn
        have S2 : St w2 lo g d G (wrF bs k x.r torn) dk := ⟨o2', csAt_kept S1.disk k2 S1.dhi hd2, S1.dlo, Nat.lt_of_lt_of_le S1.dhi k2.size, hd2, S1.six⟩
        have cS2 := csAt_kept cS k2 (by omega) (fun hm => by have := (hall _ (List.mem_cons_of_mem _ hm)).2; omega)
        have cR2 := csAt_kept cR k2 (by omega) (fun hm => by have := (hall _ (List.mem_cons_of_mem _ hm)).2; omega)
        have K2 : Kept (d :: g :: G) w w2 := (k1.sub (fun _ h => by cases h)).then k2 (fun y hy => .inl (List.mem_cons_of_mem _ hy))
        have s2 : w.heap.size + 3 ≤ w2.heap.size := by have := k2.size; omega
        clear a0 o2 o2' k2 S1 cS cR z0 z3 z4 z5 z6 z7
        generalize wrF bs k x.r torn = bs2 at *
        generalize (!wrN bs k x.r.s) = fl at *
        have a0 := cS2.cell 0 _ rfl
        have g0 := cS2.frozen 0 (by simp)
        have kc := kept_cell w2 w.heap.size 0 (.slice (some ⟨g, 0, none⟩) 4 cap)
        have S3 := S2.kept kc (fun y hy => by have := (hall y hy).2; simp; omega)
        have K3 := K2.then kc (fun y hy => by simp at hy; subst hy; right; exact Nat.le_refl _)
        have cR3 := csAt_kept cR2 kc (by omega) (by simp; omega)
        have cS3 : CsAt (w2.setCell ⟨w.heap.size, 0, none⟩ (.slice (some ⟨g, 0, none⟩) 4 cap)) w.heap.size [.slice (some ⟨g, 0, none⟩) 4 cap, .slice (some ⟨d, 0, none⟩) 6 dcap] := by
          refine ⟨fun j v hv => ?_, fun j hj => ?_⟩
          · rw [Nat.zero_add]
            match j, hv with
            | 0, hv => (obtain rfl : v = .slice (some ⟨g, 0, none⟩) 4 cap := by simpa using hv.symm); exact World.cell?_setCell_same' _ _ _ (by rw [a0]; rfl)
            | 1, hv => rw [World.cell?_setCell_other _ _ _ _ (by intro q; cases q)]; exact cS2.cell 1 v hv
            | n + 2, hv => simp at hv
          · exact there_cell cS2.free w.heap.size 0 (.slice (some ⟨g, 0, none⟩) 4 cap) j hj
        have s3 : w.heap.size + 3 ≤ (w2.setCell ⟨w.heap.size, 0, none⟩ (.slice (some ⟨g, 0, none⟩) 4 cap)).heap.size := Nat.le_trans s2 kc.size
        go_upto_region 9 with fail
        generalize w2.setCell ⟨w.heap.size, 0, none⟩ (.slice (some ⟨g, 0, none⟩) 4 cap) = w3 at *
        clear a0 g0 S2 K2 cR2 cS2 kc
        have d0 := cR3.cell 0 _ rfl
        have d1 := cR3.cell 1 _ rfl
        have f0 := cR3.frozen 0 (by simp)
        have f1 := cR3.frozen 1 (by simp)
        have y0 := cS3.cell 0 _ rfl
        have y1 := cS3.cell 1 _ rfl
        have p1 := cR3.put [.slice (some ⟨g, 0, none⟩) 4 cap, .slice (some ⟨d, 0, none⟩) 6 dcap] rfl
        have kz := kept_cells w3 (w.heap.size + 1 + 1) 0 [.slice (some ⟨g, 0, none⟩) 4 cap, .slice (some ⟨d, 0, none⟩) 6 dcap]
        have SZ := (S3).kept kz (fun y hy => by have := (hall y hy).2; simp; omega)
        have KZ : Kept (d :: g :: G) w (w3.setCells (w.heap.size + 1 + 1) 0 [.slice (some ⟨g, 0, none⟩) 4 cap, .slice (some ⟨d, 0, none⟩) 6 dcap]) := (K3).then kz (fun y hy => by simp at hy; subst hy; right; omega)
        go_wp2
        refine bodyPost_ret (res_cell_mid Tryz.results182 _ _ (w.heap.size + 1 + 1) [.slice (some ⟨g, 0, none⟩) 4 cap, .slice (some ⟨d, 0, none⟩) 6 dcap] _ rfl p1.cells Tryz.underlying26 rfl (by kernel_rfl)) rfl ?_
        exact ⟨rfl, by rw [unhide HE1, unhide HE2]; exact SZ, KZ⟩
      · have q3 : (x.kind == 3) = false := by simpa using t3
        have HE1 : Hid (doF bs x torn = bs) := by show _ = _; rw [unhide HF, if_neg t2, if_neg t3]
        clear t1 t2 t3 z1 z2 z3 z4 z5 z6 z7
        have d0 := cR.cell 0 _ rfl
        have d1 := cR.cell 1 _ rfl
        have f0 := cR.frozen 0 (by simp)
        have f1 := cR.frozen 1 (by simp)
        have y0 := cS.cell 0 _ rfl
        have y1 := cS.cell 1 _ rfl
        have p1 := cR.put [.slice (some ⟨g, 0, none⟩) 4 cap, .slice (some ⟨d, 0, none⟩) 6 dcap] rfl
        have kz := kept_cells w1 (w.heap.size + 1 + 1) 0 [.slice (some ⟨g, 0, none⟩) 4 cap, .slice (some ⟨d, 0, none⟩) 6 dcap]
        have SZ := (S1).kept kz (fun y hy => by have := (hall y hy).2; simp; omega)
        have KZ : Kept (d :: g :: G) w (w1.setCells (w.heap.size + 1 + 1) 0 [.slice (some ⟨g, 0, none⟩) 4 cap, .slice (some ⟨d, 0, none⟩) 6 dcap]) := (k1.sub (fun _ h => by cases h)).then kz (fun y hy => by simp at hy; subst hy; right; omega)
        go_wp2
        refine bodyPost_ret (res_cell_mid Tryz.results182 _ _ (w.heap.size + 1 + 1) [.slice (some ⟨g, 0, none⟩) 4 cap, .slice (some ⟨d, 0, none⟩) 6 dcap] _ rfl p1.cells Tryz.underlying26 rfl (by kernel_rfl)) rfl ?_
        exact ⟨rfl, by rw [unhide HE1, unhide HE2]; exact SZ, KZ⟩
end Go.Proofs.YtogfelpdgeionaaGreat.DoA
