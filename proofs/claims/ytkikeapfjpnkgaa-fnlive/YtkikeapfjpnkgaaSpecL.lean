/-
  The specification's last record of an address, and which page lives.
-/
import Derived.Test.YtkikeapfjpnkgaaBaL
namespace Go.Proofs.Ytkikeapfjpnkgaa.SpecL
open Go.ChangeShapes Go.WideShapes Go.ChangeAt Go.RowKit OkA Big Fl ImplB ImplF ImplS _root_.Go.Proofs.Ytkikeapfjpnkgaa.Own ImplT ImplU SpecA SpecB SpecC SpecD SpecW SpecF SpecG SpecH Ok2 Pl
set_option linter.unusedVariables false
set_option linter.unusedSimpArgs false
attribute [local go_sem ↓] Go.wp_at_zero Go.wp_at_succ

theorem size_rc (r : Rc) : (Try.prog.info? 25).map (·.size) = some (rcC r).length := by show _ = some 4; kernel_rfl
theorem size_rca (r : Rc) : (Try.prog.info? 25).map (·.size) = some (rcC r).toArray.size := by show _ = some 4; kernel_rfl
theorem one_rc (r : Rc) : (rcC r).toArray.all (·.oneCell') = true := all_oneCell_toArray (by intro v hv; simp [rcC] at hv; rcases hv with rfl | rfl | rfl | rfl <;> rfl)
/-- The record that lies in a block. -/
structure RcAt (w : World) (b : Nat) (r : Rc) : Prop where
  cells : w.rangeAt b 0 (rcC r)
  free : w.there b 0 4
theorem RcAt.below {w w' : World} {b B : Nat} {r : Rc} (h : RcAt w b r) (hb : Below B w w') (hl : b < B) : RcAt w' b r := ⟨rangeAt_below h.cells hb hl, there_below h.free hb hl⟩
theorem RcAt.new (w : World) (r : Rc) (T : TypeId) : RcAt (w.alloc (.cells (rcC r).toArray T)) w.heap.size r :=
  ⟨rangeAt_new w _ _, fun j hj => by
    have : j = 0 ∨ j = 1 ∨ j = 2 ∨ j = 3 := by omega
    rcases this with rfl | rfl | rfl | rfl <;> simp [rcC]⟩
theorem RcAt.put {w : World} {b : Nat} {r : Rc} (h : RcAt w b r) (q : Rc) : RcAt (w.setCells b 0 (rcC q)) b q :=
  ⟨fun j v hv => by
    obtain ⟨hj, rfl⟩ := List.getElem?_eq_some_iff.1 hv
    exact cell_setCells_eq (vs := rcC q) h.free j hj, World.there_setCells h.free _ _ _⟩
def LastPost (w : World) (bs : List Bk) (addr : Int) (e : Ending) (w' : World) : Prop := e = .returned (.tuple #[.agg (rcC (lastR bs addr)).toArray, .bool (lastO bs addr)]) ∧ Below w.heap.size w w'

set_option maxRecDepth 100000 in
set_option maxHeartbeats 2000000 in
theorem last_any (a : Option Addr) (cap : Nat) (bs : List Bk) (addr : Int) (w : World) (hf : FsAt w a bs) (hl : bs.length ≤ 1048576) (hp : ∀ b ∈ bs, b.ps.length ≤ 1048576) :
    Calls Try.prog 84 #[.slice a bs.length cap, .int .i64 addr] w fun e w' => LastPost w bs addr e w' := by
  have HF := hide hf
  have HP := hide hp
  have HR0 : Hid (lastF addr zRc bs = lastR bs addr) := rfl
  have HO : Hid (lastO bs addr = decide (0 < (lastR bs addr).s)) := rfl
  have HTK : Hid (lastF addr zRc (bs.take bs.length) = lastR bs addr) := by show _ = _; rw [List.take_of_length_le (Nat.le_refl _)]; rfl
  have HF0 : Hid (lastF addr zRc (bs.take 0) = zRc) := rfl
  clear hf hp
  generalize hn : bs.length = n at *
  have HL := hide hn
  clear hn
  have hli : (n : Int) ≤ 1048576 := by omega
  go_enter Try.func84, Try.ntmps84
  go_wp2
  have Z0 : RcAt (w.alloc (.cells (rcC zRc).toArray 25)) w.heap.size zRc := RcAt.new w zRc _
  have B0 : Below w.heap.size w ((w.alloc (.cells (rcC zRc).toArray 25)).alloc (.cells (rcC zRc).toArray 25)) := ((Below.refl _ _).alloc (Nat.le_refl _) _).alloc (by simp) _
  have Z1 : RcAt ((w.alloc (.cells (rcC zRc).toArray 25)).alloc (.cells (rcC zRc).toArray 25)) (w.heap.size + 1) zRc := by have := RcAt.new (w.alloc (.cells (rcC zRc).toArray 25)) zRc 25; rwa [World.size_alloc] at this
  have Z2 := Z0.below ((Below.refl (w.alloc (.cells (rcC zRc).toArray 25)).heap.size (w.alloc (.cells (rcC zRc).toArray 25))).alloc (Nat.le_refl _) (.cells (rcC zRc).toArray 25)) (by simp)
  have S0 : w.heap.size + 2 ≤ ((w.alloc (.cells (rcC zRc).toArray 25)).alloc (.cells (rcC zRc).toArray 25)).heap.size := by simp
  rw [show #[Value.int .i64 0, .int .i64 0, .int .i64 0, .int .i64 0] = (rcC zRc).toArray from rfl]
  clear Z0
  generalize (w.alloc (.cells (rcC zRc).toArray 25)).alloc (.cells (rcC zRc).toArray 25) = w1 at *
  generalize (rcC zRc).toArray = zc at *
  generalize hsz : w.heap.size = sz at *
  go_loopw [7] (fun i w' => ∃ k : Nat, k ≤ n ∧ i = .int .i64 k ∧ RcAt w' (sz + 1) (lastF addr zRc (bs.take k)) ∧ RcAt w' sz zRc ∧ Below sz w w' ∧ sz + 2 ≤ w'.heap.size) (fun i _ => n - (intOf i).toNat)
  case atStart => exact ⟨0, by omega, rfl, by rw [unhide HF0]; exact Z1, Z2, B0, S0⟩
  case round =>
    clear Z1 Z2 B0 S0
    obtain ⟨k, hk, rfl, A1, A2, bw, hs⟩ := hrel
    by_cases h0 : k = n
    · subst h0
      rw [unhide HTK] at A1
      have c0 := A1.cells 0 _ rfl
      have c1 := A1.cells 1 _ rfl
      have c2 := A1.cells 2 _ rfl
      have c3 := A1.cells 3 _ rfl
      have t2 := A2.free
      have x2 := A2.put (lastR bs addr)
      simp only [Nat.zero_add] at c0 c1 c2 c3
      clear HTK A2
      generalize hr : lastR bs addr = r at *
      have HRE := hide hr
      clear hr
      have HS := hide (size_rc r)
      have HSA := hide (size_rca r)
      have HO1 := hide (one_rc r)
      go_wp2_with fail
      refine wp_region_noPanic ?_
      refine wp_region_held_drew (S := fun w' => w'.rangeAt (sz + 1) 0 (rcC r)) (by kernel_rfl) (by simpa using A1.cells) (fun hHeld => ?_)
      refine takeL 0 (_) rfl (by kernel_rfl) (by kernel_rfl) (by kernel_rfl) (fun _ _ _ h => h) (yieldsIf_load_mid rfl 25 _ rfl (sz + 1) 0 rfl (rcC r) _ (fun _ h => h) Try.underlying25 rfl (unhide HS)) hHeld ?_
      try simp only [Act.put, List.setIfInBounds_toArray, List.set_cons_zero, List.set_cons_succ]
      refine takeL 1 (.pointer (some ⟨sz + 1, 1, none⟩)) rfl (by kernel_rfl) (by kernel_rfl) (by kernel_rfl) (fun _ _ _ h => h) (Or.inl ⟨rfl, fun w9 hSw => by go_simp⟩) hHeld ?_
      try simp only [Act.put, List.setIfInBounds_toArray, List.set_cons_zero, List.set_cons_succ]
      refine takeL 2 (.int .i64 r.s) rfl (by kernel_rfl) (by kernel_rfl) (by kernel_rfl) (fun _ _ _ h => h) (Or.inl ⟨rfl, fun w9 hSw => by have hc := hSw 1 _ rfl; rw [Nat.zero_add] at hc; go_simp⟩) hHeld ?_
      try simp only [Act.put, List.setIfInBounds_toArray, List.set_cons_zero, List.set_cons_succ]
      refine takeL 3 (.bool (decide (0 < r.s))) rfl (by kernel_rfl) (by kernel_rfl) (by kernel_rfl) (fun _ _ _ h => h) (Or.inl ⟨rfl, fun w9 hSw => by go_simp⟩) hHeld ?_
      try simp only [Act.put, List.setIfInBounds_toArray, List.set_cons_zero, List.set_cons_succ]
      refine oneL 4 rfl (by kernel_rfl) rfl (fun K hK => ?_)
      refine wp_store_mid 25 _ _ rfl sz 0 (rcC r).toArray rfl rfl ((World.there_drew _ _ _ _).2 t2) (unhide HSA) (unhide HO1) ?_
      refine hK.out _ _ (World.rangeAt_setCells_apart hHeld _ _ _ (.inl (by omega))) (fun hHeld => ?_)
      clear hK K
      try simp only [Act.put, List.setIfInBounds_toArray, List.set_cons_zero, List.set_cons_succ]
      refine takeL 5 (.bool (decide (0 < r.s))) rfl (by kernel_rfl) (by kernel_rfl) (by kernel_rfl) (fun _ _ _ h => h) (Or.inl ⟨rfl, fun _ _ => rfl⟩) hHeld ?_
      try simp only [Act.put, List.setIfInBounds_toArray, List.set_cons_zero, List.set_cons_succ]
      refine wpAnyH_done (by kernel_rfl) ?_ _
      refine NoPanic.normal ?_
      go_wp2_with fail
      refine bodyPost_ret (res_cell_tmp Try.results84 _ _ sz (rcC r) _ rfl (World.rangeAt_setCells_same _ _ _ _ ((World.there_drew _ _ _ _).2 t2)) Try.underlying25 rfl (unhide HS)) rfl (unhide ?_)
      exact ⟨by rw [unhide HO, unhide HRE]; rfl, by rw [hsz]; exact below_setCells _ (Nat.le_refl _) _ _ _ bw.drew⟩
    · have hlt : (k : Int) < (n : Int) := by omega
      have hkb : k < bs.length := by have := unhide HL; omega
      have hlo : (0 : Int) ≤ (k : Int) := by omega
      obtain ⟨b1, o1, rfl, g1⟩ : ∃ b o, a = some ⟨b, o, none⟩ ∧ ∀ i (hi : i < bs.length), BkAt wr b (o + i * 2) bs[i] := by
        rcases (unhide HF).below (hsz ▸ bw) with rfl | h
        · simp at hkb
        · exact h
      obtain ⟨p1, c1, d0, d1, q1⟩ := g1 k hkb
      have HPL := hide (unhide HP _ (List.getElem_mem hkb))
      have HT := hide (lastF_take addr zRc bs k hkb)
      have lb : b1 < sz := by
        have h1 := unhide HF
        rcases h1 with rfl | ⟨b', o', e', h'⟩
        · simp at hkb
        · simp at e'
          obtain ⟨rfl, rfl⟩ := e'
          obtain ⟨_, _, e0, _, _⟩ := h' k hkb
          exact hsz ▸ cell_lt e0
      have HQ : Hid (PsAt w p1 bs[k].ps) := by
        have h1 := unhide HF
        rcases h1 with rfl | ⟨b', o', e', h'⟩
        · simp at hkb
        · simp at e'
          obtain ⟨rfl, rfl⟩ := e'
          obtain ⟨p2, c2, e0, _, e2⟩ := h' k hkb
          rw [bw.cell (p := ⟨b1, o1 + k * 2, none⟩) lb] at d0
          rw [d0] at e0
          simp at e0
          rw [e0.1]; exact e2
      have D0 : ∀ w' : World, Below sz wr w' → w'.cell? ⟨b1, o1 + k * 2, none⟩ = some (.slice p1 bs[k].ps.length c1) := fun w' hb => (hb.cell (p := ⟨b1, o1 + k * 2, none⟩) lb).trans d0
      have HD := hide D0
      clear g1 q1 d1 D0
      generalize hbk : bs[k] = b at *
      clear hbk
      generalize hq : b.ps.length = q at *
      have HLQ := hide hq
      have hqi : (q : Int) ≤ 1048576 := by have := unhide HPL; omega
      clear hq
      generalize ho : lastF addr zRc (bs.take k) = o at *
      clear ho
      have HE0 : Hid (lastP addr o (b.ps.take 0) = o) := rfl
      have HE1 : Hid (lastP addr o (b.ps.take q) = lastP addr o b.ps) := by show _ = _; rw [← unhide HLQ, List.take_of_length_le (Nat.le_refl _)]
      go_wp2
      go_loopw [8] (fun i w' => ∃ j : Nat, j ≤ q ∧ i = .int .i64 j ∧ RcAt w' (sz + 1) (lastP addr o (b.ps.take j)) ∧ RcAt w' sz zRc ∧ Below sz wr w' ∧ sz + 2 ≤ w'.heap.size) (fun i _ => q - (intOf i).toNat)
      case atStart => exact ⟨0, by omega, rfl, by rw [unhide HE0]; exact A1, A2, Below.refl _ _, hs⟩
      case round =>
        obtain ⟨j, hj, rfl, E1, E2, be, hse⟩ := hrel
        have dd := unhide HD _ be
        have bw2 : Below sz w wr := bw.trans be
        by_cases h1 : j = q
        · subst h1
          rw [unhide HE1, ← unhide HT] at E1
          go_wp2
          go_roundw
          case rel => exact ⟨k + 1, by omega, by first | rfl | go_num, E1, E2, bw2, hse⟩
          case measure => simp [intOf]; omega
        · have hjt : (j : Int) < (q : Int) := by omega
          have hjo : (0 : Int) ≤ (j : Int) := by omega
          have hjb : j < b.ps.length := by have := unhide HLQ; omega
          obtain ⟨pb, po, rfl, r1⟩ : ∃ b' o', p1 = some ⟨b', o', none⟩ ∧ w.rangeAt b' o' (psC b.ps) := by
            rcases unhide HQ with h | h
            · rw [h] at hjb; simp at hjb
            · exact h
          obtain ⟨m0, m1, m2, m3, m4⟩ := PsAt.cells r1 j hjb
          have lp : pb < sz := hsz ▸ cell_lt m0
          rw [← bw2.cell (p := ⟨pb, po + j * 5, none⟩) lp] at m0
          rw [← bw2.cell (p := ⟨pb, po + j * 5 + 1, none⟩) lp] at m1
          rw [← bw2.cell (p := ⟨pb, po + j * 5 + 2, none⟩) lp] at m2
          rw [← bw2.cell (p := ⟨pb, po + j * 5 + 3, none⟩) lp] at m3
          rw [← bw2.cell (p := ⟨pb, po + j * 5 + 4, none⟩) lp] at m4
          have HLT := hide (lastP_take addr o b.ps j hjb)
          clear r1
          generalize b.ps[j] = p at *
          generalize hoo : lastP addr o (b.ps.take j) = oo at *
          clear hoo
          have e1 := E1.cells 1 _ rfl
          have f0 := (E1.free 0 (by omega)).2
          have f1 := (E1.free 1 (by omega)).2
          have f2 := (E1.free 2 (by omega)).2
          have f3 := (E1.free 3 (by omega)).2
          have e0 := E1.cells 0 _ rfl
          have e2 := E1.cells 2 _ rfl
          have e3 := E1.cells 3 _ rfl
          simp only [Nat.zero_add] at e0 e1 e2 e3 f0 f1 f2 f3
          have BA := be.alloc (by omega) (.cells (pgC p).toArray 33)
          have SA : sz + 2 ≤ (wr.alloc (.cells (pgC p).toArray 33)).heap.size := by simp; omega
          have EA := E1.below ((Below.refl wr.heap.size wr).alloc (Nat.le_refl _) (.cells (pgC p).toArray 33)) (by omega)
          have EB := E2.below ((Below.refl wr.heap.size wr).alloc (Nat.le_refl _) (.cells (pgC p).toArray 33)) (by omega)
          have HN : Hid (laterB addr oo p = false → lastP addr o (b.ps.take (j + 1)) = oo) := fun h => by rw [unhide HLT, lastS, h]; rfl
          have HY : Hid (laterB addr oo p = true → lastP addr o (b.ps.take (j + 1)) = pgRc p) := fun h => by rw [unhide HLT, lastS, h]; rfl
          have AL := (Below.refl (wr.setCells (sz + 1) 0 (rcC (pgRc p))).heap.size (wr.setCells (sz + 1) 0 (rcC (pgRc p)))).alloc (Nat.le_refl _) (.cells (pgC p).toArray 33)
          have EP := (E1.put (pgRc p)).below AL (by rw [size_setCells]; omega)
          have EC := (show RcAt (wr.setCells (sz + 1) 0 (rcC (pgRc p))) sz zRc from ⟨World.rangeAt_setCells_apart E2.cells _ _ _ (.inl (by omega)), World.there_setCells E2.free _ _ _⟩).below AL (by rw [size_setCells]; omega)
          have BP := (below_setCells (sz + 1) (by omega) (rcC (pgRc p)) 0 _ be).trans (AL.mono (by rw [size_setCells]; omega))
          have SP : sz + 2 ≤ ((wr.setCells (sz + 1) 0 (rcC (pgRc p))).alloc (.cells (pgC p).toArray 33)).heap.size := by rw [World.size_alloc, size_setCells]; omega
          clear AL
          have hs1 : sz + 1 < wr.heap.size := by omega
          clear HLT E1 E2
          by_cases t1 : p.st = 1
          · have g1 : (p.st == 1) = true := by simpa using t1
            by_cases t2 : p.a = addr
            · have g2 : (p.a == addr) = true := by simpa using t2
              by_cases t3 : oo.s < p.s
              · have HE := hide (unhide HY (by simp [laterB, t1, t2, t3]))
                clear t1 t2
                go_wp2
                go_roundw
                case rel => exact ⟨j + 1, by omega, by first | rfl | go_num, by rw [unhide HE]; exact EP, EC, BP, SP⟩
                case measure => simp [intOf]; omega
              · clear e0 e2 e3 f0 f1 f2 f3 EP EC BP SP
                have HE := hide (unhide HN (by simp [laterB, t1, t2, t3]))
                clear t1 t2
                go_wp2
                go_roundw
                case rel => exact ⟨j + 1, by omega, by first | rfl | go_num, by rw [unhide HE]; exact EA, EB, BA, SA⟩
                case measure => simp [intOf]; omega
            · clear e0 e1 e2 e3 f0 f1 f2 f3 EP EC BP SP
              have g2 : (p.a == addr) = false := by simpa using t2
              have HE := hide (unhide HN (by simp [laterB, t1, t2]))
              clear t1 t2
              go_wp2
              go_roundw
              case rel => exact ⟨j + 1, by omega, by first | rfl | go_num, by rw [unhide HE]; exact EA, EB, BA, SA⟩
              case measure => simp [intOf]; omega
          · clear e0 e1 e2 e3 f0 f1 f2 f3 EP EC BP SP
            have g1 : (p.st == 1) = false := by simpa using t1
            have HE := hide (unhide HN (by simp [laterB, t1]))
            clear t1
            go_wp2
            go_roundw
            case rel => exact ⟨j + 1, by omega, by first | rfl | go_num, by rw [unhide HE]; exact EA, EB, BA, SA⟩
            case measure => simp [intOf]; omega
end Go.Proofs.Ytkikeapfjpnkgaa.SpecL
