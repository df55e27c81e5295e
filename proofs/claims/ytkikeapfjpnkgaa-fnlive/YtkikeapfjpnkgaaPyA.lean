/-
  The specification's drawing of what happens, with the store behind it.
-/
import Derived.Test.YtkikeapfjpnkgaaEvA
namespace Go.Proofs.Ytkikeapfjpnkgaa.PyA
open Go.ChangeShapes Go.WideShapes Go.ChangeAt Go.RowKit Go.Shelf Big Fl ImplF ImplL Kp StA RmA DoA AlA DpA NwA Pick Draw EvA
set_option linter.unusedVariables false
set_option linter.unusedSimpArgs false
attribute [local go_sem ↓] Go.wp_at_zero Go.wp_at_succ

/-- A row of events, of any content. -/
structure Evs (w : World) (lo : Nat) (v : Value) (n : Nat) (cs : List Value) : Prop where
  row : w.ownsRow lo 125 5 v n cs
  lt : ∀ g, v.ownBlock = some g → lo ≤ g ∧ g < w.heap.size
theorem made_ev : (Try.prog.info? 125).map (fun i => (i.zero, i.size, i.bytes)) = some (some (.agg #[.int .i64 0, .int .i64 0, .int .i64 0, .int .i64 0, .bool false]), 5, 40) := by kernel_rfl
theorem infoE : ∃ i, Try.prog.info? 125 = some i ∧ i.zero = some (.agg #[.int .i64 0, .int .i64 0, .int .i64 0, .int .i64 0, .bool false]) ∧ i.size = 5 ∧ i.bytes = 40 := by
  have h := made_ev
  cases hq : Try.prog.info? 125 with
  | none => rw [hq] at h; cases h
  | some i => rw [hq] at h; simp at h; exact ⟨i, rfl, h.1, h.2.1, h.2.2⟩
theorem Evs.kept {w w' : World} {lo : Nat} {v : Value} {n : Nat} {cs : List Value} (h : Evs w lo v n cs) {L : List Nat} (k : Kept L w w') (hL : ∀ x ∈ L, x < lo) : Evs w' lo v n cs := by
  refine ⟨?_, fun g hg => ⟨(h.lt g hg).1, Nat.lt_of_lt_of_le (h.lt g hg).2 k.size⟩⟩
  obtain ⟨h1, h2⟩ := h.row
  refine ⟨h1, ?_⟩
  rcases h2 with h2 | ⟨g, cap, cur, e, hb, hh, r⟩
  · exact .inl h2
  · refine .inr ⟨g, cap, cur, e, hb, ?_, r⟩
    have hg := h.lt g (by rw [e]; rfl)
    rw [k.block g hg.2 (fun hm => by have := hL g hm; omega)]
    exact hh
theorem Evs.nil (w : World) : Evs (w.alloc (.cells #[] 125)) w.heap.size (.slice (some ⟨w.heap.size, 0, none⟩) 0 0) 0 [] :=
  ⟨World.ownsRow_lit w #[] 0 (Nat.le_refl _) (by simp [maxLen]) rfl, fun g hg => by simp [Value.ownBlock] at hg; subst hg; exact ⟨Nat.le_refl _, by simp⟩⟩
theorem Evs.push {w w' : World} {lo : Nat} {v v' : Value} {n : Nat} {cs ds : List Value} (h : Evs w lo v n cs) (hlo : lo ≤ w.heap.size) (ho : w'.ownsRow lo 125 5 v' (n + 1) (cs ++ ds)) (hg : w.grownBy w' v.ownBlock) : Evs w' lo v' (n + 1) (cs ++ ds) ∧ Below lo w w' := by
  refine ⟨⟨ho, fun g e => ?_⟩, (Below.refl _ _).grown hg hlo (fun k e => (h.lt k e).1)⟩
  obtain ⟨_, h2⟩ := ho
  rcases h2 with ⟨_, h2⟩ | ⟨g', cap, cur, rfl, hb, hh, _⟩
  · omega
  · simp [Value.ownBlock] at e
    subst e
    refine ⟨hb, ?_⟩
    by_cases hlt : g' < w'.heap.size
    · exact hlt
    · have : w'.heap[g']? = none := by simp; omega
      rw [this] at hh; cases hh
theorem Evs.mono {w : World} {lo lo' : Nat} {v : Value} {n : Nat} {cs : List Value} (h : Evs w lo v n cs) (hl : lo' ≤ lo) : Evs w lo' v n cs := by
  obtain ⟨h1, h2⟩ := h.row
  refine ⟨⟨h1, ?_⟩, fun g hg => ⟨Nat.le_trans hl (h.lt g hg).1, (h.lt g hg).2⟩⟩
  rcases h2 with h2 | ⟨g, cap, cur, e, hb, r⟩
  · exact .inl h2
  · exact .inr ⟨g, cap, cur, e, Nat.le_trans hl hb, r⟩
/-- An event that is drawn: its kind, address, value, cut, and whether it is torn. -/
abbrev Ev5 := Int × Int × Int × Int × Bool
def e5C (x : Ev5) : List Value := [.int .i64 x.1, .int .i64 x.2.1, .int .i64 x.2.2.1, .int .i64 x.2.2.2.1, .bool x.2.2.2.2]
def e5sC (l : List Ev5) : List Value := l.flatMap e5C
theorem e5sC_push (l : List Ev5) (x : Ev5) : e5sC (l ++ [x]) = e5sC l ++ e5C x := by unfold e5sC; rw [List.flatMap_append]; simp
def E5In (x : Ev5) : Prop := 1 ≤ x.1 ∧ x.1 ≤ 4 ∧ 1 ≤ x.2.1 ∧ x.2.1 ≤ 6 ∧ 0 ≤ x.2.2.1 ∧ x.2.2.1 ≤ 9 ∧ 0 ≤ x.2.2.2.1 ∧ x.2.2.2.1 ≤ 9
def E5s (l : List Ev5) (m : Nat) : Prop := l.length = m ∧ ∀ x ∈ l, E5In x
theorem E5s.nil : E5s [] 0 := ⟨rfl, fun x hx => by simp at hx⟩
theorem E5s.push {l : List Ev5} {m : Nat} (h : E5s l m) {x : Ev5} (hx : E5In x) : E5s (l ++ [x]) (m + 1) := ⟨by rw [List.length_append, h.1]; rfl, fun y hy => by
  rcases List.mem_append.1 hy with hy | hy
  · exact h.2 y hy
  · simp at hy; subst hy; exact hx⟩
/-- What is drawn, with the events. -/
def PlayPD (u w0 w : World) (rb : Nat) (a : Option Addr) (len cap : Nat) (p : Int) (e : Ending) (w' : World) : Prop :=
  ∃ ev g d G c B D p' m l, e = .returned (.tuple #[ev, .agg #[.slice (some ⟨g, 0, none⟩) 4 c, .slice (some ⟨d, 0, none⟩) 6 6]]) ∧ okB B = true ∧ St w' w.heap.size g d G B D ∧ p ≤ p' ∧ p' ≤ p + 500 ∧ Rd u w0 rb a len cap p' w' ∧ Kept [rb] w w' ∧ 4 ≤ c ∧ Evs w' w.heap.size ev m (e5sC l) ∧ m ≤ 57 ∧ E5s l m
/-- What is drawn: -/
def PlayPost (u w0 w : World) (rb : Nat) (a : Option Addr) (len cap : Nat) (p : Int) (e : Ending) (w' : World) : Prop :=
  ∃ ev g d G c B D p', e = .returned (.tuple #[ev, .agg #[.slice (some ⟨g, 0, none⟩) 4 c, .slice (some ⟨d, 0, none⟩) 6 6]]) ∧ okB B = true ∧ St w' w.heap.size g d G B D ∧ p ≤ p' ∧ p' ≤ p + 500 ∧ Rd u w0 rb a len cap p' w' ∧ Kept [rb] w w' ∧ 4 ≤ c
theorem res_tmp_cell {P : Program} {fn : Func} {p q : Tmp} {ty : TypeId} (h : fn.results = #[.tmp q, .cell p ty]) (tmps : Array Value) (w : World) (g : Nat) (cs : List Value) (d : TypeDesc)
    (hp : tmps.getD p undef = .pointer (some ⟨g, 0, none⟩)) (hg : w.rangeAt g 0 cs) (hu : P.underlying ty = some d) (hd : d.isRow = true) (hi : (P.info? ty).map (·.size) = some cs.length) :
    (results fn tmps).run P w = .ok (.tuple #[tmps.getD q undef, .agg cs.toArray]) w := by
  have hp' : tmps[p]?.getD undef = .pointer (some ⟨g, 0, none⟩) := by simpa using hp
  simp [results, h, hp', asAddr, run_loadVar_mid w g 0 ty cs d hg hu hd hi]
theorem rd_kept {u w0 w w' : World} {rb : Nat} {a : Option Addr} {len cap : Nat} {p : Int} (d : Rd u w0 rb a len cap p w) {L : List Nat} (kz : Kept L w w') (hL : ∀ x ∈ L, x ≠ rb ∧ w0.heap.size ≤ x ∧ u.heap.size ≤ x) : Rd u w0 rb a len cap p w' := by
  have q := d.kept kz (fun x hx => ⟨(hL x hx).1, (hL x hx).2.1⟩)
  exact ⟨q.lt, q.old, q.c0, q.c1, q.f1, q.bel, d.kp.then kz (fun x hx => .inr (hL x hx).2.2)⟩
theorem one_ev (kind x b cc : Int) (torn : Bool) : ∀ v ∈ ([.int .i64 kind, .int .i64 x, .int .i64 b, .int .i64 cc, .bool torn] : List Value), v.oneCell' = true := by intro v hv; simp at hv; rcases hv with rfl | rfl | rfl | rfl | rfl <;> rfl

set_option maxRecDepth 100000 in
set_option maxHeartbeats 4000000 in
theorem playD_any (u w0 w : World) (rb : Nat) (a : Option Addr) (len cap : Nat) (p : Int) (hr : Row w0 a len) (hl : len ≤ 10000) (h : Rd u w0 rb a len cap p w) (hp0 : 0 ≤ p) (hp : p ≤ 1000) :
    Calls Try.prog 74 #[.pointer (some ⟨rb, 0, none⟩)] w fun e w' => PlayPD u w0 w rb a len cap p e w' := by
  have hlt := h.lt
  have hu := h.kp.size
  have ho := h.old
  have d1 := h.alloc (.cells #[.slice none 0 0, .slice none 0 0] 54)
  have C1 := CsAt.new w [.slice none 0 0, .slice none 0 0] 54
  have k1 : Kept [rb] w (w.alloc (.cells #[.slice none 0 0, .slice none 0 0] 54)) := (Kept.refl _ _).alloc _
  have s1 : (w.alloc (.cells #[.slice none 0 0, .slice none 0 0] 54)).heap.size = w.heap.size + 1 := by simp
  obtain ⟨iE, hiE, hzE, hsE, hbE⟩ := infoE
  have HNW := hide store_new
  have HKZ := hide ok_new
  go_enter Try.func74, Try.ntmps74
  go_upto_region 1 with fail
  generalize w.alloc (.cells #[.slice none 0 0, .slice none 0 0] 54) = w1 at *
  go_wp2_with fail
  refine (unhide HNW w1).mono ?_
  rintro e w2 ⟨g, d, G, c, rfl, S2, b2, hc4⟩
  have hall := S2.all
  have S2' : St w2 w.heap.size g d G zFs zDk := ⟨S2.own.mono (by omega), S2.disk, by have := S2.dlo; omega, S2.dhi, S2.dn, S2.six⟩
  have d2 := rd_kept d1 (L := []) (Kept.of b2) (by simp)
  have C2 := csAt_kept C1 (L := []) (Kept.of b2) (by omega) (by simp)
  have k2 := k1.trans (Kept.of b2)
  have s2 := b2.size
  clear S2 HNW d1 C1 k1 b2
  have bA : Below w2.heap.size w2 (w2.alloc (.cells #[.slice (some ⟨g, 0, none⟩) 4 c, .slice (some ⟨d, 0, none⟩) 6 6] 54)) := (Below.refl _ _).alloc (Nat.le_refl _) _
  have S3 := S2'.below bA
  have d3 := rd_kept d2 (L := []) (Kept.of bA) (by simp)
  have C3 := csAt_kept C2 (L := []) (Kept.of bA) (by omega) (by simp)
  have E3 := CsAt.new w2 [.slice (some ⟨g, 0, none⟩) 4 c, .slice (some ⟨d, 0, none⟩) 6 6] 54
  have k3 := k2.trans (Kept.of bA)
  have s3 : (w2.alloc (.cells #[.slice (some ⟨g, 0, none⟩) 4 c, .slice (some ⟨d, 0, none⟩) 6 6] 54)).heap.size = w2.heap.size + 1 := by simp
  clear S2' d2 C2 k2 bA
  go_upto_region 2 with fail
  generalize w2.alloc (.cells #[.slice (some ⟨g, 0, none⟩) 4 c, .slice (some ⟨d, 0, none⟩) 6 6] 54) = w3 at *
  generalize hsb : w2.heap.size = sb at *
  have bB : Below w3.heap.size w3 (w3.alloc (.cells #[] 125)) := (Below.refl _ _).alloc (Nat.le_refl _) _
  have S4 := S3.below bB
  have d4 := rd_kept d3 (L := []) (Kept.of bB) (by simp)
  have C4 := csAt_kept C3 (L := []) (Kept.of bB) (by omega) (by simp)
  have E4 := csAt_kept E3 (L := []) (Kept.of bB) (by omega) (by simp)
  have V4 := Evs.nil w3
  have k4 := k3.trans (Kept.of bB)
  have s4 : w3.heap.size ≤ (w3.alloc (.cells #[] 125)).heap.size := bB.size
  clear S3 d3 C3 E3 k3 bB hsb
  rw [s3] at V4 s4
  go_upto_region 3 with fail
  generalize w3.alloc (.cells #[] 125) = w4 at *
  go_wp2_with fail
  refine (pick_k u w0 w4 rb a len cap p 58 hr hl d4 hp0 (by omega) (by omega) (by omega)).mono ?_
  rintro e w5 ⟨n0, rfl, n0l, n0h, d5, m5⟩
  have hrb : ∀ y ∈ d :: g :: G, w.heap.size + 1 ≤ y ∧ y < sb := fun y hy => by have := hall y hy; omega
  have S5 := S4.kept m5 (fun y hy => by have := hrb y hy; simp; omega)
  have C5 := csAt_kept C4 m5 (by omega) (by simp; omega)
  have E5 := csAt_kept E4 m5 (by omega) (by simp; omega)
  have V5 := V4.kept m5 (by simp; omega)
  have k5 := k4.trans m5
  have s5 : sb + 1 ≤ w5.heap.size := Nat.le_trans s4 m5.size
  clear S4 C4 E4 V4 k4 s4 d4 m5 hall
  obtain ⟨n1, rfl⟩ : ∃ n : Nat, n0 = (n : Int) := ⟨n0.toNat, by omega⟩
  go_wp2
  go_loopw [5, 6] (fun v i w' => ∃ (k m : Nat) (l : List Ev5) (B : List Bk) (D : List Int) (pp : Int), m + k ≤ 57 ∧ i = .int .i64 k ∧ p ≤ pp ∧ pp + 8 * (k : Int) ≤ p + 460 ∧ Evs w' (sb + 1) v m (e5sC l) ∧ Hid (E5s l m) ∧ Hid (okB B = true) ∧ St w' w.heap.size g d G B D ∧ CsAt w' sb [.slice (some ⟨g, 0, none⟩) 4 c, .slice (some ⟨d, 0, none⟩) 6 6] ∧ CsAt w' w.heap.size [.slice none 0 0, .slice none 0 0] ∧ Rd u w0 rb a len cap pp w' ∧ Kept [rb] w w' ∧ sb + 1 ≤ w'.heap.size) (fun _ i _ => (intOf i).toNat)
  case atStart => exact ⟨n1, 0, [], zFs, zDk, p + 1, by omega, rfl, by omega, by omega, V5, E5s.nil, HKZ, S5, E5, C5, d5, k5, s5⟩
  case round =>
    clear S5 E5 C5 d5 k5 s5 V5 HKZ
    obtain ⟨k, m, l, B, D, pp, hmk, rfl, hpp, hpk, Vr, HL, HO, Sr, Er, Cr, dr, kr, sr⟩ := hrel
    by_cases h0 : k = 0
    · have HSS := hide (show (Try.prog.info? 54).map (·.size) = some 2 by kernel_rfl)
      subst h0
      go_upto_region 9 with fail
      refine wp_region_noPanic ?_
      refine wp_region_held_drew (S := fun w' => CsAt w' sb [.slice (some ⟨g, 0, none⟩) 4 c, .slice (some ⟨d, 0, none⟩) 6 6]) (by kernel_rfl) (⟨fun j v hv => Er.cells j v hv, fun j hj => Er.free j hj⟩) (fun hHeld => ?_)
      refine takeL 0 (u5) rfl (by kernel_rfl) (by kernel_rfl) (by kernel_rfl) (fun _ _ _ h => h) (Or.inl ⟨rfl, fun _ _ => rfl⟩) hHeld ?_
      try simp only [Act.put, List.setIfInBounds_toArray, List.set_cons_zero, List.set_cons_succ]
      refine takeL 1 (.agg #[.slice (some ⟨g, 0, none⟩) 4 c, .slice (some ⟨d, 0, none⟩) 6 6]) rfl (by kernel_rfl) (by kernel_rfl) (by kernel_rfl) (fun _ _ _ h => h) (yieldsIf_load_mid rfl 54 _ rfl sb 0 rfl [.slice (some ⟨g, 0, none⟩) 4 c, .slice (some ⟨d, 0, none⟩) 6 6] _ (fun _ h => h.cells) Try.underlying54 rfl (unhide HSS)) hHeld ?_
      try simp only [Act.put, List.setIfInBounds_toArray, List.set_cons_zero, List.set_cons_succ]
      refine takeL 2 (u5) rfl (by kernel_rfl) (by kernel_rfl) (by kernel_rfl) (fun _ _ _ h => h) (Or.inl ⟨rfl, fun _ _ => rfl⟩) hHeld ?_
      try simp only [Act.put, List.setIfInBounds_toArray, List.set_cons_zero, List.set_cons_succ]
      have Sd := Sr.kept (L := []) (Kept.refl [] wr).drew (fun _ _ => by simp)
      have Cd := csAt_kept Cr (L := []) (Kept.refl [] wr).drew (by omega) (by simp)
      have dd := dr.drew
      have kd := kr.drew
      have p1 := Cd.put [.slice (some ⟨g, 0, none⟩) 4 c, .slice (some ⟨d, 0, none⟩) 6 6] rfl
      have kz := kept_cells wr.drew w.heap.size 0 [.slice (some ⟨g, 0, none⟩) 4 c, .slice (some ⟨d, 0, none⟩) 6 6]
      have SZ := Sd.kept kz (fun y hy => by have := hrb y hy; simp; omega)
      have dZ := rd_set dd kz (by omega) (by omega) (by omega)
      have VZ := ((Vr.kept (L := []) (Kept.refl [] wr).drew (by simp)).kept kz (by have := hrb d (by simp); simp; omega)).mono (lo' := w.heap.size) (by have := hrb d (by simp); omega)
      have KZ := kd.then kz (fun y hy => by simp at hy; subst hy; right; exact Nat.le_refl _)
      have eZ := csAt_kept hHeld kz (by show sb < wr.heap.size; omega) (by simp; omega)
      refine oneL 3 rfl (by kernel_rfl) rfl (fun K hK => ?_)
      refine wp_store_mid 54 _ _ rfl w.heap.size 0 [.slice (some ⟨g, 0, none⟩) 4 c, .slice (some ⟨d, 0, none⟩) 6 6].toArray rfl rfl Cd.free (unhide HSS) (by kernel_rfl) ?_
      refine hK.out _ _ eZ (fun hHeld => ?_)
      clear hK K
      try simp only [Act.put, List.setIfInBounds_toArray, List.set_cons_zero, List.set_cons_succ]
      refine wpAnyH_done (by kernel_rfl) ?_ _
      refine NoPanic.normal ?_
      go_wp2_with fail
      refine bodyPost_ret (res_tmp_cell Try.results74 _ _ w.heap.size [.slice (some ⟨g, 0, none⟩) 4 c, .slice (some ⟨d, 0, none⟩) 6 6] _ rfl p1.cells Try.underlying54 rfl (by kernel_rfl)) rfl ?_
      exact ⟨u5, g, d, G, c, B, D, pp, m, l, rfl, unhide HO, SZ, hpp, by omega, dZ, KZ, hc4, VZ, by omega, unhide HL⟩
    · obtain ⟨k', rfl⟩ : ∃ k', k = k' + 1 := ⟨k - 1, by omega⟩
      clear h0
      have hk0 : (0 : Int) < ((k' + 1 : Nat) : Int) := by omega
      go_wp2_with fail
      refine (eventD_any u w0 wr rb a len cap pp hr hl dr (by omega) (by omega)).mono ?_
      rintro e w6 ⟨kind, x, b, cc, torn, pp', rfl, hp1, hp2, d6, m6, g1, g2, g3, g4, g5, g6, g7, g8⟩
      have HL' : Hid (E5s (l ++ [(kind, x, b, cc, torn)]) (m + 1)) := (unhide HL).push (x := (kind, x, b, cc, torn)) ⟨g1, g2, g3, g4, g5, g6, g7, g8⟩
      clear g1 g2 g3 g4 g5 g6 g7 g8
      have S6 := Sr.kept m6 (fun y hy => by have := hrb y hy; simp; omega)
      have C6 := csAt_kept Cr m6 (by omega) (by simp; omega)
      have E6 := csAt_kept Er m6 (by omega) (by simp; omega)
      have V6 := Vr.kept m6 (by simp; omega)
      have k6 := kr.trans m6
      have s6 : sb + 1 ≤ w6.heap.size := Nat.le_trans sr m6.size
      clear Sr Cr Er Vr kr sr dr m6
      have bA : Below w6.heap.size w6 (w6.alloc (.cells #[.int .i64 kind, .int .i64 x, .int .i64 b, .int .i64 cc, .bool torn] 125)) := (Below.refl _ _).alloc (Nat.le_refl _) _
      have kA : Kept [] w6 (w6.alloc (.cells #[.int .i64 kind, .int .i64 x, .int .i64 b, .int .i64 cc, .bool torn] 125)) := Kept.of bA
      have S7 := S6.kept kA (fun y hy => by have := hrb y hy; simp)
      have C7 := csAt_kept C6 kA (by omega) (by simp)
      have E7 := csAt_kept E6 kA (by omega) (by simp)
      have V7 := V6.kept kA (by simp)
      have d7 := rd_kept d6 kA (by simp)
      have k7 := k6.trans (Kept.of bA)
      have F7 := CsAt.new w6 [.int .i64 kind, .int .i64 x, .int .i64 b, .int .i64 cc, .bool torn] 125
      have s7 : (w6.alloc (.cells #[.int .i64 kind, .int .i64 x, .int .i64 b, .int .i64 cc, .bool torn] 125)).heap.size = w6.heap.size + 1 := by simp
      have hown : ∀ y ∈ (Value.ownBlock u5).toList, sb + 1 ≤ y ∧ y < w6.heap.size := fun y hy => V6.lt y (by simpa using hy)
      go_upto_region 7 with fail
      generalize w6.alloc (.cells #[.int .i64 kind, .int .i64 x, .int .i64 b, .int .i64 cc, .bool torn] 125) = w7 at *
      clear S6 C6 E6 V6 k6 d6 bA kA
      generalize w6.heap.size = eb at *
      have bB : Below w7.heap.size w7 (w7.alloc (.cells #[.int .i64 kind, .int .i64 x, .int .i64 b, .int .i64 cc, .bool torn] 125)) := (Below.refl _ _).alloc (Nat.le_refl _) _
      have kB : Kept [] w7 (w7.alloc (.cells #[.int .i64 kind, .int .i64 x, .int .i64 b, .int .i64 cc, .bool torn] 125)) := Kept.of bB
      have S8 := S7.kept kB (fun y hy => by have := hrb y hy; simp)
      have C8 := csAt_kept C7 kB (by omega) (by simp)
      have E8 := csAt_kept E7 kB (by omega) (by simp)
      have V8 := V7.kept kB (by simp)
      have d8 := rd_kept d7 kB (by simp)
      have k8 := k7.trans (Kept.of bB)
      have F8 := csAt_kept F7 kB (by omega) (by simp)
      have nw := CsAt.new w7 [.int .i64 kind, .int .i64 x, .int .i64 b, .int .i64 cc, .bool torn] 125
      rw [s7] at nw
      have hnw := src_mid nw.cells
      have hR8 := V8.row
      have hs8 := bB.size
      have y0 := F7.cell 0 _ rfl
      have y1 := F7.cell 1 _ rfl
      have y2 := F7.cell 2 _ rfl
      have y3 := F7.cell 3 _ rfl
      have y4 := F7.cell 4 _ rfl
      have hone := one_ev kind x b cc torn
      clear S7 C7 E7 V7 k7 d7 bB kB nw
      go_upto_region 8 with (refine wpList_append_own _ rfl _ _ 103 rfl (sb + 1) 125 iE (.agg #[.int .i64 0, .int .i64 0, .int .i64 0, .int .i64 0, .bool false]) 5 40 Try.underlying103 hiE hzE hsE hbE rfl (by omega) _ m (e5sC l) rfl hR8 ⟨eb + 1, 0, none⟩ 1 1 [.int .i64 kind, .int .i64 x, .int .i64 b, .int .i64 cc, .bool torn] rfl rfl hnw hone (by simp [maxLen]; omega) (by omega) (by omega) ?_; intro v' w9 ho9 hg9 _)
      obtain ⟨V9, b9⟩ := V8.push (by omega) ho9 hg9
      rw [← show e5sC (l ++ [(kind, x, b, cc, torn)]) = e5sC l ++ [.int .i64 kind, .int .i64 x, .int .i64 b, .int .i64 cc, .bool torn] from e5sC_push _ _] at V9
      have kg : Kept (Value.ownBlock u5).toList (w7.alloc (.cells #[.int .i64 kind, .int .i64 x, .int .i64 b, .int .i64 cc, .bool torn] 125)) w9 := (Kept.refl _ _).grown hg9 (fun k e => .inl (by simp; exact e))
      have S9 := S8.kept kg (fun y hy hm => by have := hrb y hy; have := hown y hm; omega)
      have C9 := csAt_kept C8 kg (by omega) (fun hm => by have := hown _ hm; omega)
      have E9 := csAt_kept E8 kg (by omega) (fun hm => by have := hown _ hm; omega)
      have F9 := csAt_kept F8 kg (by omega) (fun hm => by have := hown _ hm; omega)
      have d9 := rd_kept d8 kg (fun y hy => by have := hown y hy; omega)
      have k9 := k8.then kg (fun y hy => by have := hown y hy; right; omega)
      have s9 : eb + 1 ≤ w9.heap.size := by have := kg.size; omega
      have q0 := F9.cell 0 _ rfl
      have q1 := F9.cell 1 _ rfl
      have q2 := F9.cell 2 _ rfl
      have q3 := F9.cell 3 _ rfl
      have q4 := F9.cell 4 _ rfl
      have x0 := E9.cell 0 _ rfl
      have x1 := E9.cell 1 _ rfl
      go_wp2_with fail
      refine (happen_any w.heap.size g d c 6 G B D kind x b cc torn w9 S9 (unhide HO)).mono ?_
      rintro e wA ⟨rfl, B', D', ok', SA, kA⟩
      have HO' := hide ok'
      have hnL : ∀ y, (y ≤ w.heap.size ∨ sb ≤ y) → y ∉ d :: g :: G := fun y hy hm => by have := hrb y hm; omega
      have CA := csAt_kept C9 kA (by omega) (hnL _ (.inl (Nat.le_refl _)))
      have EA := csAt_kept E9 kA (by omega) (hnL _ (.inr (Nat.le_refl _)))
      have VA := V9.kept kA (fun y hy => by have := hrb y hy; omega)
      have dA := rd_kept d9 kA (fun y hy => by have := hrb y hy; omega)
      have kAA := k9.then kA (fun y hy => by have := hrb y hy; right; omega)
      have sA : eb + 1 ≤ wA.heap.size := Nat.le_trans s9 kA.size
      clear S9 C9 E9 V9 F9 k9 d9 y0 y1 y2 y3 y4 q0 q1 q2 q3 q4 x0 x1 kA ok' S8 C8 E8 V8 F8 k8 d8 hR8 hnw ho9 hg9 b9 kg F7 hs8 s7
      have c0 := EA.cell 0 _ rfl
      have c1 := EA.cell 1 _ rfl
      have f0 := EA.frozen 0 (by simp)
      have f1 := EA.frozen 1 (by simp)
      have kz := kept_cells wA sb 0 [.slice (some ⟨g, 0, none⟩) 4 c, .slice (some ⟨d, 0, none⟩) 6 6]
      have SZ := SA.kept kz (fun y hy => by have := hrb y hy; simp; omega)
      have EZ := EA.put [.slice (some ⟨g, 0, none⟩) 4 c, .slice (some ⟨d, 0, none⟩) 6 6] rfl
      have CZ := csAt_kept CA kz (by omega) (by simp; omega)
      have VZ := VA.kept kz (by simp)
      have dZ := rd_set dA kz (by omega) (by omega) (by omega)
      have KZ := kAA.then kz (fun y hy => by simp at hy; subst hy; right; omega)
      have sZ := Nat.le_trans sA kz.size
      go_wp2
      go_roundw
      case rel => exact ⟨k', m + 1, _, B', D', pp', by omega, by first | rfl | go_num, by omega, by omega, VZ, HL', HO', SZ, EZ, CZ, dZ, KZ, Nat.le_trans (Nat.le_trans s6 (Nat.le_succ _)) sZ⟩
      case measure => simp [intOf]
theorem play_any (u w0 w : World) (rb : Nat) (a : Option Addr) (len cap : Nat) (p : Int) (hr : Row w0 a len) (hl : len ≤ 10000) (h : Rd u w0 rb a len cap p w) (hp0 : 0 ≤ p) (hp : p ≤ 1000) :
    Calls Try.prog 74 #[.pointer (some ⟨rb, 0, none⟩)] w fun e w' => PlayPost u w0 w rb a len cap p e w' :=
  (playD_any u w0 w rb a len cap p hr hl h hp0 hp).mono fun _ _ ⟨ev, g, d, G, c, B, D, p', m, l, h1, h2, h3, h4, h5, h6, h7, h8, _⟩ => ⟨ev, g, d, G, c, B, D, p', h1, h2, h3, h4, h5, h6, h7, h8⟩
end Go.Proofs.Ytkikeapfjpnkgaa.PyA
