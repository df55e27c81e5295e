/-
  Texts that belong together, one behind the other: LawV, SpecL.
-/
import Derived.Test.YtcmklcfedeeahaaGreatQ8

/-
  The laws' marks on blocks of any shape; comparing, marking and looking at what a call has answered.
-/
namespace Go.Proofs.YtcmklcfedeeahaaGreat.LawV
open Go.ChangeShapes Go.WideShapes Go.ChangeAt Go.RowKit OkA Big Fl ImplB ImplF ImplS Own ImplT ImplU SpecA SpecB SpecC SpecD MarkB LawsA LawsB LawsE OpenF
set_option linter.unusedVariables false
set_option linter.unusedSimpArgs false

/-- Only these blocks of memory were written. -/
structure Only (L : List Nat) (w w' : World) : Prop where
  size : w'.heap.size = w.heap.size
  cell : ∀ b o, b ∉ L → w'.cell? ⟨b, o, none⟩ = w.cell? ⟨b, o, none⟩
  frozen : ∀ b o, b ∉ L → w'.frozen? ⟨b, o, none⟩ = w.frozen? ⟨b, o, none⟩
theorem Only.refl (L : List Nat) (w : World) : Only L w w := ⟨rfl, fun _ _ _ => rfl, fun _ _ _ => rfl⟩
theorem Only.setCells {L : List Nat} {w w' : World} (h : Only L w w') {b : Nat} (hb : b ∈ L) (o : Nat) (vs : List Value) : Only L w (w'.setCells b o vs) :=
  ⟨by rw [size_setCells]; exact h.size, fun x p hx => by
    have hne : x ≠ b := fun e => hx (by rw [e]; exact hb)
    rw [cell_setCells_ne (.inl hne)]; exact h.cell x p hx, fun x p hx => by rw [World.frozen?_setCells]; exact h.frozen x p hx⟩
theorem Own.only {w w' : World} {lo g n : Nat} {G : List Nat} {bs : List Bk} (h : Own w lo g G bs n) {L : List Nat} (ho : Only L w w') (hL : ∀ x ∈ g :: G, x ∉ L) : Own w' lo g G bs n := by
  have hlen := h.len
  have hg := hL g (by simp)
  have hG : ∀ i (hi : i < bs.length), G[i]'(by omega) ∉ L := fun i hi => hL _ (List.mem_cons_of_mem _ (List.getElem_mem _))
  refine ⟨h.len, h.nd, h.lo, fun x hx => by rw [ho.size]; exact h.hi x hx, h.fit, fun j hj => ?_, fun i hi => ?_, fun i hi => ?_, fun i hi j v hv => ?_, fun i hi j hj => ?_⟩
  · rw [ho.cell _ _ hg, ho.frozen _ _ hg]; exact h.room j hj
  · obtain ⟨c, hc⟩ := h.out i hi
    exact ⟨c, by rw [ho.cell _ _ hg]; exact hc⟩
  · rw [ho.cell _ _ hg]; exact h.worn i hi
  · rw [ho.cell _ _ (hG i hi)]; exact h.pgs i hi j v hv
  · rw [ho.cell _ _ (hG i hi), ho.frozen _ _ (hG i hi)]; exact h.free i hi j hj
theorem NewFs.only {w w' : World} {lo : Nat} {v : Value} {bs : List Bk} (h : NewFs w lo v bs) {L : List Nat} (ho : Only L w w') (hL : ∀ x ∈ L, x < lo) : NewFs w' lo v bs := by
  rcases h with h | ⟨g, G, cap, rfl, h⟩
  · exact .inl h
  · exact .inr ⟨g, G, cap, rfl, Own.only h ho (fun x hx hm => by have := h.lo x hx; have := hL x hm; omega)⟩

set_option maxHeartbeats 1000000 in
theorem markPageG (pb cap n : Nat) (k : Int) (w : World) (hk0 : 0 ≤ k) (hk1 : k ≤ 1000000000000000) (hn : n ≤ 1048576) (ht : w.there pb 0 (n * 5)) :
    Calls Tryz.prog 56 #[.slice (some ⟨pb, 0, none⟩) n cap, .int .i64 k] w fun e w' => e = .returned (.int .i64 (k + 5 * (n : Nat))) ∧ w' = w.setCells pb 0 (psC (mkPs n k)) := by
  have HT := hide ht
  clear ht
  go_enter Tryz.func56, Tryz.ntmps56
  go_wp2
  go_loopw [5, 1] (fun i m w' => ∃ (j : Nat) (M : Int), j ≤ n ∧ i = .int .i64 j ∧ m = .int .i64 M ∧ M = k + 5 * (j : Nat) ∧ Hid (w' = w.setCells pb 0 (psC (mkPs j k)))) (fun i _ _ => n - (intOf i).toNat)
  case atStart => exact ⟨0, k, by omega, rfl, rfl, by omega, rfl⟩
  case round =>
    obtain ⟨j, M, hj, rfl, rfl, hM, hw⟩ := hrel
    by_cases h0 : j = n
    · subst h0
      have HW := hw
      go_wp2
      go_ret
      exact ⟨by rw [hM]; rfl, unhide HW⟩
    · have hlt : (j : Int) < (n : Int) := by omega
      have hlo : (0 : Int) ≤ (j : Int) := by omega
      have tr : wr.there pb 0 (n * 5) := by rw [unhide hw]; exact World.there_setCells (unhide HT) _ _ _
      obtain ⟨v0, c0⟩ := there_some tr (j * 5) (by omega)
      obtain ⟨v1, c1⟩ := there_some tr (j * 5 + 1) (by omega)
      obtain ⟨v2, c2⟩ := there_some tr (j * 5 + 2) (by omega)
      obtain ⟨v3, c3⟩ := there_some tr (j * 5 + 3) (by omega)
      obtain ⟨v4, c4⟩ := there_some tr (j * 5 + 4) (by omega)
      have f0 := (tr (j * 5) (by omega)).2
      have f1 := (tr (j * 5 + 1) (by omega)).2
      have f2 := (tr (j * 5 + 2) (by omega)).2
      have f3 := (tr (j * 5 + 3) (by omega)).2
      have f4 := (tr (j * 5 + 4) (by omega)).2
      simp only [Nat.zero_add] at c0 c1 c2 c3 c4 f0 f1 f2 f3 f4
      have HM := hide (mark_step w pb j k)
      rw [← unhide hw, ← hM] at HM
      have hM0 : 0 ≤ M := by omega
      have hM1 : M ≤ 2000000000000000 := by omega
      clear tr hw
      go_wp2
      go_roundw
      case rel =>
        refine ⟨j + 1, M + 5, by omega, by first | rfl | go_num, by first | rfl | go_num, by omega, ?_⟩
        show _ = _
        rw [unhide HM, hM]
        simp only [Nat.add_assoc, Int.add_assoc, Int.reduceAdd, Nat.reduceAdd]
      case measure => simp [intOf]; omega

def MkG (w : World) (lo g : Nat) (G : List Nat) (e : Ending) (w' : World) : Prop := ∃ m : Int, e = .returned (.int .i64 m) ∧ 0 ≤ m ∧ Only (g :: G) w w' ∧ Below lo w w'
def MkL (w : World) (lo g : Nat) (G : List Nat) (e : Ending) (w' : World) : Prop := ∃ m : Int, e = .returned (.int .i64 m) ∧ 0 ≤ m ∧ m ≤ 6000000000000 ∧ Only (g :: G) w w' ∧ Below lo w w'
def Sized (bs : List Bk) : Prop := ∀ b ∈ bs, b.ps.length ≤ 1048576
theorem Sized.set {bs : List Bk} (h : Sized bs) (j : Nat) {b : Bk} (hb : b.ps.length ≤ 1048576) : Sized (bs.set j b) := fun x hx => by
  rcases List.mem_or_eq_of_mem_set hx with h' | rfl
  · exact h x h'
  · exact hb
set_option maxHeartbeats 1000000 in
theorem markL_any (lo g cap N : Nat) (G : List Nat) (bs : List Bk) (w : World) (o : Own w lo g G bs N) (hl : bs.length ≤ 1048576) (hp : Sized bs) :
    Calls Tryz.prog 32 #[.slice (some ⟨g, 0, none⟩) bs.length cap, .int .i64 1] w fun e w' => MkL w lo g G e w' := by
  have HO := hide o
  have HP := hide hp
  clear o hp
  generalize hn : bs.length = n at *
  have HN := hide hn
  clear hn
  go_enter Tryz.func32, Tryz.ntmps32
  go_wp2
  go_loopw [5, 1] (fun i m w' => ∃ (j : Nat) (M : Int), j ≤ n ∧ i = .int .i64 j ∧ m = .int .i64 M ∧ 0 ≤ M ∧ M ≤ 1 + (j : Nat) * 5242881 ∧ (∃ cs, List.length cs = n ∧ Sized cs ∧ Own w' lo g G cs N) ∧ Only (g :: G) w w' ∧ Below lo w w') (fun i _ _ => n - (intOf i).toNat)
  case atStart => exact ⟨0, 1, by omega, rfl, rfl, by omega, by omega, ⟨bs, unhide HN, unhide HP, unhide HO⟩, Only.refl _ _, Below.refl _ _⟩
  case round =>
    obtain ⟨j, M, hj, rfl, rfl, hM0, hM1, ⟨cs, hcn, hcp, oj⟩, yj, bj⟩ := hrel
    by_cases h0 : j = n
    · subst h0
      go_wp2
      go_ret
      exact ⟨M, rfl, hM0, by omega, yj, bj⟩
    · have hlt : (j : Int) < (n : Int) := by omega
      have hjb : j < cs.length := by omega
      have hlo : (0 : Int) ≤ (j : Int) := by omega
      have hlen := oj.len
      obtain ⟨pc, c0⟩ := oj.out j hjb
      have c1 := oj.worn j hjb
      have tp := oj.free j hjb
      have hpl4 := hcp cs[j] (List.getElem_mem hjb)
      have hne : g ≠ G[j]'(by omega) := fun e => (List.nodup_cons.1 oj.nd).1 (e ▸ List.getElem_mem _)
      have hgl : lo ≤ g := oj.lo g (by simp)
      have hmem : G[j]'(by omega) ∈ g :: G := List.mem_cons_of_mem _ (List.getElem_mem _)
      have hpl := oj.lo _ hmem
      have OB := hide (oj.block j hjb (mkPs cs[j].ps.length M) (by rw [mkPs_len]) (M + 5 * (cs[j].ps.length : Nat)))
      have HSZ := hide (hcp.set j (b := ⟨mkPs cs[j].ps.length M, M + 5 * (cs[j].ps.length : Nat)⟩) (by show (mkPs _ _).length ≤ _; rw [mkPs_len]; exact hpl4))
      have HLS : Hid ((cs.set j ⟨mkPs cs[j].ps.length M, M + 5 * (cs[j].ps.length : Nat)⟩).length = n) := by show _ = _; rw [List.length_set]; exact hcn
      have hM2 : M ≤ 1000000000000000 := by omega
      have TR := oj.room
      have hfit := oj.fit
      generalize cs.set j ⟨mkPs cs[j].ps.length M, M + 5 * (cs[j].ps.length : Nat)⟩ = ds at *
      generalize cs[j].wn = wn at *
      generalize cs[j].ps.length = q at *
      generalize G[j]'(by omega) = gj at *
      have HC := hide (markPageG gj pc q M wr hM0 hM2 hpl4 tp)
      have hqi : (q : Int) ≤ 1048576 := by omega
      have hq0 : (0 : Int) ≤ (q : Int) := by omega
      generalize psC (mkPs q M) = xs at *
      have C1 : (wr.setCells gj 0 xs).cell? ⟨g, j * 2 + 1, none⟩ = some (.int .i64 wn) := by rw [cell_setCells_ne (.inl hne)]; exact c1
      have F1 : (wr.setCells gj 0 xs).frozen? ⟨g, j * 2 + 1, none⟩ = false := by
        have := (World.there_setCells TR gj 0 xs (j * 2 + 1) (by omega)).2
        rwa [Nat.zero_add] at this
      have B1 := below_setCells gj hpl xs 0 wr bj
      have Y1 := hide ((yj.setCells hmem 0 xs).setCells (show g ∈ g :: G by simp) (j * 2 + 1) [.int .i64 (M + 5 * (q : Nat))])
      clear oj bj yj c1 tp TR hcp hcn hlen hpl4
      generalize wr.setCells gj 0 xs = w1 at *
      go_wp2_with (go_at_call 56; refine (unhide HC).mono ?_; rintro e w' ⟨rfl, rfl⟩)
      go_roundw
      case rel => exact ⟨j + 1, M + 5 * (q : Nat) + 1, by omega, by first | rfl | go_num, by first | rfl | go_num, by omega, by omega, ⟨ds, unhide HLS, unhide HSZ, unhide OB⟩, unhide Y1, B1.setCell hgl _⟩
      case measure => simp [intOf]; omega

theorem markG_any (lo g cap N : Nat) (G : List Nat) (bs : List Bk) (w : World) (o : Own w lo g G bs N) (hl : bs.length ≤ 1048576) (hp : Sized bs) :
    Calls Tryz.prog 32 #[.slice (some ⟨g, 0, none⟩) bs.length cap, .int .i64 1] w fun e w' => MkG w lo g G e w' := by
  refine (markL_any lo g cap N G bs w o hl hp).mono ?_
  rintro e w' ⟨m, rfl, h0, _, y, b⟩
  exact ⟨m, rfl, h0, y, b⟩

/-! What a call has answered. -/
def Small (R : List Bk) : Prop := R.length ≤ 4 ∧ Fours R
theorem eqV {w : World} {l1 l2 : Nat} {v1 v2 : Value} {R : List Bk} (hR : Small R) (h1 : NewFs w l1 v1 R) (h2 : NewFs w l2 v2 R) :
    Calls Tryz.prog 29 #[v1, v2] w fun e w' => e = .returned (.bool true) ∧ Below w.heap.size w w' := by
  obtain ⟨a1, c1, rfl, f1⟩ := h1.form
  obtain ⟨a2, c2, rfl, f2⟩ := h2.form
  have := hR.1
  exact eqBlockS_any a1 a2 c1 c2 R w f1 f2 (by omega) (fun b hb => by rw [hR.2 b hb]; omega)
theorem mark_nil (a : Option Addr) (cap : Nat) (w : World) : Calls Tryz.prog 32 #[.slice a 0 cap, .int .i64 1] w fun e w' => e = .returned (.int .i64 1) ∧ w' = w := by
  go_enter Tryz.func32, Tryz.ntmps32
  go_wp2
  go_loop [5, 1] (fun i m => i = .int .i64 0 ∧ m = .int .i64 1) (fun _ _ => 0)
  case atStart => exact ⟨rfl, rfl⟩
  case round =>
    obtain ⟨rfl, rfl⟩ := hrel
    go_wp2
    go_ret
    exact ⟨rfl, rfl⟩
def MkV (w : World) (lo : Nat) (v : Value) (n : Nat) (e : Ending) (w' : World) : Prop := e = .returned (.int .i64 (1 + 21 * (n : Nat))) ∧ NewFs w' lo v (mkBs n 1) ∧ Below lo w w' ∧ w'.heap.size = w.heap.size
theorem markV {w : World} {lo : Nat} {v : Value} {R : List Bk} (hR : Small R) (h : NewFs w lo v R) :
    Calls Tryz.prog 32 #[v, .int .i64 1] w fun e w' => MkV w lo v R.length e w' := by
  rcases h with ⟨rfl, a, c, rfl⟩ | ⟨g, G, cap, rfl, h⟩
  · refine (mark_nil a c w).mono ?_
    rintro e w' ⟨rfl, rfl⟩
    exact ⟨rfl, .inl ⟨rfl, a, c, rfl⟩, Below.refl _ _, rfl⟩
  · refine (markBlockS_any lo g cap R.length G R 1 w h hR.2 hR.1 (by omega) (by omega)).mono ?_
    rintro e w' ⟨rfl, o, b, s⟩
    exact ⟨rfl, .inr ⟨g, G, cap, by rw [mkBs_len], by rw [mkBs_len]; exact o⟩, b, s⟩
theorem heldV {w : World} {lo : Nat} {v : Value} {n : Nat} (hn : n ≤ 4) (h : NewFs w lo v (mkBs n 1)) :
    Calls Tryz.prog 34 #[v, .int .i64 1] w fun e w' => e = .returned (.int .i64 (1 + 21 * (n : Nat))) ∧ w' = w := by
  obtain ⟨a, c, rfl, f⟩ := h.form
  rw [mkBs_len]
  exact heldBlockS_any a c n 1 w (by omega) (by omega) hn f
end Go.Proofs.YtcmklcfedeeahaaGreat.LawV

/-
  The specification's last record of an address, and which page lives.
-/
namespace Go.Proofs.YtcmklcfedeeahaaGreat.SpecL
open Go.ChangeShapes Go.WideShapes Go.ChangeAt Go.RowKit OkA Big Fl ImplB ImplF ImplS Own ImplT ImplU SpecA SpecB SpecC SpecD SpecW SpecF SpecG SpecH Ok2 Pl
set_option linter.unusedVariables false
set_option linter.unusedSimpArgs false
attribute [local go_sem ↓] Go.wp_at_zero Go.wp_at_succ

theorem size_rc (r : Rc) : (Tryz.prog.info? 46).map (·.size) = some (rcC r).length := by show _ = some 4; kernel_rfl
theorem size_rca (r : Rc) : (Tryz.prog.info? 46).map (·.size) = some (rcC r).toArray.size := by show _ = some 4; kernel_rfl
theorem one_rc (r : Rc) : (rcC r).toArray.all (·.oneCell') = true := all_oneCell_toArray (by intro v hv; simp [rcC] at hv; rcases hv with rfl | rfl | rfl | rfl <;> rfl)
/-- The record that lies in a block. -/
structure RcAt (w : World) (b : Nat) (r : Rc) : Prop where
  cells : w.rangeAt b 0 (rcC r)
  free : w.there b 0 4
theorem RcAt.below {w w' : World} {b B : Nat} {r : Rc} (h : RcAt w b r) (hb : Below B w w') (hl : b < B) : RcAt w' b r := ⟨rangeAt_below h.cells hb hl, there_below h.free hb hl⟩
theorem RcAt.new (w : World) (r : Rc) (T : TypeId) : RcAt (w.alloc (.cells (rcC r).toArray T)) w.heap.size r :=
  ⟨rangeAt_new w _ _, fun j hj => by
    have : j = 0 ∨ j = 1 ∨ j = 2 ∨ j = 3 := by omega
    rcases this with rfl | rfl | rfl | rfl <;> simp [rcC]⟩
theorem RcAt.put {w : World} {b : Nat} {r : Rc} (h : RcAt w b r) (q : Rc) : RcAt (w.setCells b 0 (rcC q)) b q :=
  ⟨fun j v hv => by
    obtain ⟨hj, rfl⟩ := List.getElem?_eq_some_iff.1 hv
    exact cell_setCells_eq (vs := rcC q) h.free j hj, World.there_setCells h.free _ _ _⟩
def LastPost (w : World) (bs : List Bk) (addr : Int) (e : Ending) (w' : World) : Prop := e = .returned (.tuple #[.agg (rcC (lastR bs addr)).toArray, .bool (lastO bs addr)]) ∧ Below w.heap.size w w'

set_option maxRecDepth 100000 in
set_option maxHeartbeats 2000000 in
theorem last_any (a : Option Addr) (cap : Nat) (bs : List Bk) (addr : Int) (w : World) (hf : FsAt w a bs) (hl : bs.length ≤ 1048576) (hp : ∀ b ∈ bs, b.ps.length ≤ 1048576) :
    Calls Tryz.prog 40 #[.slice a bs.length cap, .int .i64 addr] w fun e w' => LastPost w bs addr e w' := by
  have HF := hide hf
  have HP := hide hp
  have HR0 : Hid (lastF addr zRc bs = lastR bs addr) := rfl
  have HO : Hid (lastO bs addr = decide (0 < (lastR bs addr).s)) := rfl
  have HTK : Hid (lastF addr zRc (bs.take bs.length) = lastR bs addr) := by show _ = _; rw [List.take_of_length_le (Nat.le_refl _)]; rfl
  have HF0 : Hid (lastF addr zRc (bs.take 0) = zRc) := rfl
  clear hf hp
  generalize hn : bs.length = n at *
  have HL := hide hn
  clear hn
  have hli : (n : Int) ≤ 1048576 := by omega
  go_enter Tryz.func40, Tryz.ntmps40
  go_wp2
  have Z0 : RcAt (w.alloc (.cells (rcC zRc).toArray 46)) w.heap.size zRc := RcAt.new w zRc _
  have B0 : Below w.heap.size w ((w.alloc (.cells (rcC zRc).toArray 46)).alloc (.cells (rcC zRc).toArray 46)) := ((Below.refl _ _).alloc (Nat.le_refl _) _).alloc (by simp) _
  have Z1 : RcAt ((w.alloc (.cells (rcC zRc).toArray 46)).alloc (.cells (rcC zRc).toArray 46)) (w.heap.size + 1) zRc := by have := RcAt.new (w.alloc (.cells (rcC zRc).toArray 46)) zRc 46; rwa [World.size_alloc] at this
  have Z2 := Z0.below ((Below.refl (w.alloc (.cells (rcC zRc).toArray 46)).heap.size (w.alloc (.cells (rcC zRc).toArray 46))).alloc (Nat.le_refl _) (.cells (rcC zRc).toArray 46)) (by simp)
  have S0 : w.heap.size + 2 ≤ ((w.alloc (.cells (rcC zRc).toArray 46)).alloc (.cells (rcC zRc).toArray 46)).heap.size := by simp
  rw [show #[Value.int .i64 0, .int .i64 0, .int .i64 0, .int .i64 0] = (rcC zRc).toArray from rfl]
  clear Z0
  generalize (w.alloc (.cells (rcC zRc).toArray 46)).alloc (.cells (rcC zRc).toArray 46) = w1 at *
  generalize (rcC zRc).toArray = zc at *
  generalize hsz : w.heap.size = sz at *
  go_loopw [7] (fun i w' => ∃ k : Nat, k ≤ n ∧ i = .int .i64 k ∧ RcAt w' (sz + 1) (lastF addr zRc (bs.take k)) ∧ RcAt w' sz zRc ∧ Below sz w w' ∧ sz + 2 ≤ w'.heap.size) (fun i _ => n - (intOf i).toNat)
  case atStart => exact ⟨0, by omega, rfl, by rw [unhide HF0]; exact Z1, Z2, B0, S0⟩
  case round =>
    clear Z1 Z2 B0 S0
    obtain ⟨k, hk, rfl, A1, A2, bw, hs⟩ := hrel
    by_cases h0 : k = n
    · subst h0
      rw [unhide HTK] at A1
      have c0 := A1.cells 0 _ rfl
      have c1 := A1.cells 1 _ rfl
      have c2 := A1.cells 2 _ rfl
      have c3 := A1.cells 3 _ rfl
      have t2 := A2.free
      have x2 := A2.put (lastR bs addr)
      simp only [Nat.zero_add] at c0 c1 c2 c3
      clear HTK A2
      generalize hr : lastR bs addr = r at *
      have HRE := hide hr
      clear hr
      have HS := hide (size_rc r)
      have HSA := hide (size_rca r)
      have HO1 := hide (one_rc r)
      go_wp2_with fail
      refine wp_region_noPanic ?_
      refine wp_region_held_drew (S := fun w' => w'.rangeAt (sz + 1) 0 (rcC r)) (by kernel_rfl) (by simpa using A1.cells) (fun hHeld => ?_)
      refine takeL 0 (_) rfl (by kernel_rfl) (by kernel_rfl) (by kernel_rfl) (fun _ _ _ h => h) (yieldsIf_load_mid rfl 46 _ rfl (sz + 1) 0 rfl (rcC r) _ (fun _ h => h) Tryz.underlying46 rfl (unhide HS)) hHeld ?_
      try simp only [Act.put, List.setIfInBounds_toArray, List.set_cons_zero, List.set_cons_succ]
      refine takeL 1 (.pointer (some ⟨sz + 1, 1, none⟩)) rfl (by kernel_rfl) (by kernel_rfl) (by kernel_rfl) (fun _ _ _ h => h) (Or.inl ⟨rfl, fun w9 hSw => by go_simp⟩) hHeld ?_
      try simp only [Act.put, List.setIfInBounds_toArray, List.set_cons_zero, List.set_cons_succ]
      refine takeL 2 (.int .i64 r.s) rfl (by kernel_rfl) (by kernel_rfl) (by kernel_rfl) (fun _ _ _ h => h) (Or.inl ⟨rfl, fun w9 hSw => by have hc := hSw 1 _ rfl; rw [Nat.zero_add] at hc; go_simp⟩) hHeld ?_
      try simp only [Act.put, List.setIfInBounds_toArray, List.set_cons_zero, List.set_cons_succ]
      refine takeL 3 (.bool (decide (0 < r.s))) rfl (by kernel_rfl) (by kernel_rfl) (by kernel_rfl) (fun _ _ _ h => h) (Or.inl ⟨rfl, fun w9 hSw => by go_simp⟩) hHeld ?_
      try simp only [Act.put, List.setIfInBounds_toArray, List.set_cons_zero, List.set_cons_succ]
      refine oneL 4 rfl (by kernel_rfl) rfl (fun K hK => ?_)
      refine wp_store_mid 46 _ _ rfl sz 0 (rcC r).toArray rfl rfl ((World.there_drew _ _ _ _).2 t2) (unhide HSA) (unhide HO1) ?_
      refine hK.out _ _ (World.rangeAt_setCells_apart hHeld _ _ _ (.inl (by omega))) (fun hHeld => ?_)
      clear hK K
      try simp only [Act.put, List.setIfInBounds_toArray, List.set_cons_zero, List.set_cons_succ]
      refine takeL 5 (.bool (decide (0 < r.s))) rfl (by kernel_rfl) (by kernel_rfl) (by kernel_rfl) (fun _ _ _ h => h) (Or.inl ⟨rfl, fun _ _ => rfl⟩) hHeld ?_
      try simp only [Act.put, List.setIfInBounds_toArray, List.set_cons_zero, List.set_cons_succ]
      refine wpAnyH_done (by kernel_rfl) ?_ _
      refine NoPanic.normal ?_
      go_wp2_with fail
      refine bodyPost_ret (res_cell_tmp Tryz.results40 _ _ sz (rcC r) _ rfl (World.rangeAt_setCells_same _ _ _ _ ((World.there_drew _ _ _ _).2 t2)) Tryz.underlying46 rfl (unhide HS)) rfl (unhide ?_)
      exact ⟨by rw [unhide HO, unhide HRE]; rfl, by rw [hsz]; exact below_setCells _ (Nat.le_refl _) _ _ _ bw.drew⟩
    · have hlt : (k : Int) < (n : Int) := by omega
      have hkb : k < bs.length := by have := unhide HL; omega
      have hlo : (0 : Int) ≤ (k : Int) := by omega
      obtain ⟨b1, o1, rfl, g1⟩ : ∃ b o, a = some ⟨b, o, none⟩ ∧ ∀ i (hi : i < bs.length), BkAt wr b (o + i * 2) bs[i] := by
        rcases (unhide HF).below (hsz ▸ bw) with rfl | h
        · simp at hkb
        · exact h
      obtain ⟨p1, c1, d0, d1, q1⟩ := g1 k hkb
      have HPL := hide (unhide HP _ (List.getElem_mem hkb))
      have HT := hide (lastF_take addr zRc bs k hkb)
      have lb : b1 < sz := by
        have h1 := unhide HF
        rcases h1 with rfl | ⟨b', o', e', h'⟩
        · simp at hkb
        · simp at e'
          obtain ⟨rfl, rfl⟩ := e'
          obtain ⟨_, _, e0, _, _⟩ := h' k hkb
          exact hsz ▸ cell_lt e0
      have HQ : Hid (PsAt w p1 bs[k].ps) := by
        have h1 := unhide HF
        rcases h1 with rfl | ⟨b', o', e', h'⟩
        · simp at hkb
        · simp at e'
          obtain ⟨rfl, rfl⟩ := e'
          obtain ⟨p2, c2, e0, _, e2⟩ := h' k hkb
          rw [bw.cell (p := ⟨b1, o1 + k * 2, none⟩) lb] at d0
          rw [d0] at e0
          simp at e0
          rw [e0.1]; exact e2
      have D0 : ∀ w' : World, Below sz wr w' → w'.cell? ⟨b1, o1 + k * 2, none⟩ = some (.slice p1 bs[k].ps.length c1) := fun w' hb => (hb.cell (p := ⟨b1, o1 + k * 2, none⟩) lb).trans d0
      have HD := hide D0
      clear g1 q1 d1 D0
      generalize hbk : bs[k] = b at *
      clear hbk
      generalize hq : b.ps.length = q at *
      have HLQ := hide hq
      have hqi : (q : Int) ≤ 1048576 := by have := unhide HPL; omega
      clear hq
      generalize ho : lastF addr zRc (bs.take k) = o at *
      clear ho
      have HE0 : Hid (lastP addr o (b.ps.take 0) = o) := rfl
      have HE1 : Hid (lastP addr o (b.ps.take q) = lastP addr o b.ps) := by show _ = _; rw [← unhide HLQ, List.take_of_length_le (Nat.le_refl _)]
      go_wp2
      go_loopw [8] (fun i w' => ∃ j : Nat, j ≤ q ∧ i = .int .i64 j ∧ RcAt w' (sz + 1) (lastP addr o (b.ps.take j)) ∧ RcAt w' sz zRc ∧ Below sz wr w' ∧ sz + 2 ≤ w'.heap.size) (fun i _ => q - (intOf i).toNat)
      case atStart => exact ⟨0, by omega, rfl, by rw [unhide HE0]; exact A1, A2, Below.refl _ _, hs⟩
      case round =>
        obtain ⟨j, hj, rfl, E1, E2, be, hse⟩ := hrel
        have dd := unhide HD _ be
        have bw2 : Below sz w wr := bw.trans be
        by_cases h1 : j = q
        · subst h1
          rw [unhide HE1, ← unhide HT] at E1
          go_wp2
          go_roundw
          case rel => exact ⟨k + 1, by omega, by first | rfl | go_num, E1, E2, bw2, hse⟩
          case measure => simp [intOf]; omega
        · have hjt : (j : Int) < (q : Int) := by omega
          have hjo : (0 : Int) ≤ (j : Int) := by omega
          have hjb : j < b.ps.length := by have := unhide HLQ; omega
          obtain ⟨pb, po, rfl, r1⟩ : ∃ b' o', p1 = some ⟨b', o', none⟩ ∧ w.rangeAt b' o' (psC b.ps) := by
            rcases unhide HQ with h | h
            · rw [h] at hjb; simp at hjb
            · exact h
          obtain ⟨m0, m1, m2, m3, m4⟩ := PsAt.cells r1 j hjb
          have lp : pb < sz := hsz ▸ cell_lt m0
          rw [← bw2.cell (p := ⟨pb, po + j * 5, none⟩) lp] at m0
          rw [← bw2.cell (p := ⟨pb, po + j * 5 + 1, none⟩) lp] at m1
          rw [← bw2.cell (p := ⟨pb, po + j * 5 + 2, none⟩) lp] at m2
          rw [← bw2.cell (p := ⟨pb, po + j * 5 + 3, none⟩) lp] at m3
          rw [← bw2.cell (p := ⟨pb, po + j * 5 + 4, none⟩) lp] at m4
          have HLT := hide (lastP_take addr o b.ps j hjb)
          clear r1
          generalize b.ps[j] = p at *
          generalize hoo : lastP addr o (b.ps.take j) = oo at *
          clear hoo
          have e1 := E1.cells 1 _ rfl
          have f0 := (E1.free 0 (by omega)).2
          have f1 := (E1.free 1 (by omega)).2
          have f2 := (E1.free 2 (by omega)).2
          have f3 := (E1.free 3 (by omega)).2
          have e0 := E1.cells 0 _ rfl
          have e2 := E1.cells 2 _ rfl
          have e3 := E1.cells 3 _ rfl
          simp only [Nat.zero_add] at e0 e1 e2 e3 f0 f1 f2 f3
          have BA := be.alloc (by omega) (.cells (pgC p).toArray 59)
          have SA : sz + 2 ≤ (wr.alloc (.cells (pgC p).toArray 59)).heap.size := by simp; omega
          have EA := E1.below ((Below.refl wr.heap.size wr).alloc (Nat.le_refl _) (.cells (pgC p).toArray 59)) (by omega)
          have EB := E2.below ((Below.refl wr.heap.size wr).alloc (Nat.le_refl _) (.cells (pgC p).toArray 59)) (by omega)
          have HN : Hid (laterB addr oo p = false → lastP addr o (b.ps.take (j + 1)) = oo) := fun h => by rw [unhide HLT, lastS, h]; rfl
          have HY : Hid (laterB addr oo p = true → lastP addr o (b.ps.take (j + 1)) = pgRc p) := fun h => by rw [unhide HLT, lastS, h]; rfl
          have AL := (Below.refl (wr.setCells (sz + 1) 0 (rcC (pgRc p))).heap.size (wr.setCells (sz + 1) 0 (rcC (pgRc p)))).alloc (Nat.le_refl _) (.cells (pgC p).toArray 59)
          have EP := (E1.put (pgRc p)).below AL (by rw [size_setCells]; omega)
          have EC := (show RcAt (wr.setCells (sz + 1) 0 (rcC (pgRc p))) sz zRc from ⟨World.rangeAt_setCells_apart E2.cells _ _ _ (.inl (by omega)), World.there_setCells E2.free _ _ _⟩).below AL (by rw [size_setCells]; omega)
          have BP := (below_setCells (sz + 1) (by omega) (rcC (pgRc p)) 0 _ be).trans (AL.mono (by rw [size_setCells]; omega))
          have SP : sz + 2 ≤ ((wr.setCells (sz + 1) 0 (rcC (pgRc p))).alloc (.cells (pgC p).toArray 59)).heap.size := by rw [World.size_alloc, size_setCells]; omega
          clear AL
          have hs1 : sz + 1 < wr.heap.size := by omega
          clear HLT E1 E2
          by_cases t1 : p.st = 1
          · have g1 : (p.st == 1) = true := by simpa using t1
            by_cases t2 : p.a = addr
            · have g2 : (p.a == addr) = true := by simpa using t2
              by_cases t3 : oo.s < p.s
              · have HE := hide (unhide HY (by simp [laterB, t1, t2, t3]))
                clear t1 t2
                go_wp2
                go_roundw
                case rel => exact ⟨j + 1, by omega, by first | rfl | go_num, by rw [unhide HE]; exact EP, EC, BP, SP⟩
                case measure => simp [intOf]; omega
              · clear e0 e2 e3 f0 f1 f2 f3 EP EC BP SP
                have HE := hide (unhide HN (by simp [laterB, t1, t2, t3]))
                clear t1 t2
                go_wp2
                go_roundw
                case rel => exact ⟨j + 1, by omega, by first | rfl | go_num, by rw [unhide HE]; exact EA, EB, BA, SA⟩
                case measure => simp [intOf]; omega
            · clear e0 e1 e2 e3 f0 f1 f2 f3 EP EC BP SP
              have g2 : (p.a == addr) = false := by simpa using t2
              have HE := hide (unhide HN (by simp [laterB, t1, t2]))
              clear t1 t2
              go_wp2
              go_roundw
              case rel => exact ⟨j + 1, by omega, by first | rfl | go_num, by rw [unhide HE]; exact EA, EB, BA, SA⟩
              case measure => simp [intOf]; omega
          · clear e0 e1 e2 e3 f0 f1 f2 f3 EP EC BP SP
            have g1 : (p.st == 1) = false := by simpa using t1
            have HE := hide (unhide HN (by simp [laterB, t1]))
            clear t1
            go_wp2
            go_roundw
            case rel => exact ⟨j + 1, by omega, by first | rfl | go_num, by rw [unhide HE]; exact EA, EB, BA, SA⟩
            case measure => simp [intOf]; omega
end Go.Proofs.YtcmklcfedeeahaaGreat.SpecL
