/-
  Texts that belong together, one behind the other: TwA, TwB, SpU.
-/
import Derived.Test.YtbiokmojjneleaaGreatHaX
import Derived.Test.YtbiokmojjneleaaGreatRaP
import Derived.Test.YtbiokmojjneleaaGreatHaL
import Derived.Test.YtbiokmojjneleaaGreatRbB
import Derived.Test.YtbiokmojjneleaaGreatHaZ

/-
  The program's steps by which a record is written.
-/
namespace Go.Proofs.YtbiokmojjneleaaGreat.TwA
open Go.ChangeShapes Go.WideShapes Go.ChangeAt Go.RowKit Go.Shelf OkA Big Fl ImplB ImplF ImplS _root_.Go.Proofs.YtbiokmojjneleaaGreat.Own ImplT ImplU SpecA SpecB SpecC SpecD SpecW SpecF SpecG SpecH Ok2 Pl FindP ImplO FindO SpecX ImplL FindN FindL FindV FindD Kp StA RmA WrA FlA StB StC StD StF StG
set_option linter.unusedVariables false
set_option linter.unusedSimpArgs false
attribute [local go_sem ↓] Go.wp_at_zero Go.wp_at_succ

def StepPost (w : World) (x : Stp) (e : Ending) (w' : World) : Prop := e = .returned (.agg (stC x).toArray) ∧ Below w.heap.size w w'
theorem diskStep_any (addr val : Int) (w : World) :
    Calls Tryz.prog 113 #[.int .i64 addr, .int .i64 val] w fun e w' => StepPost w (diskS addr val) e w' := by
  go_enter Tryz.func113, Tryz.ntmps113
  go_wp2
  exact bodyPost_ret (v := .agg (stC (diskS addr val)).toArray) (by simp [results, Tryz.results113, go_sem]; rfl) rfl ⟨rfl, (Below.refl _ _).alloc (Nat.le_refl _) _⟩
theorem wipeStep_any (blk : Int) (w : World) :
    Calls Tryz.prog 114 #[.int .i64 blk] w fun e w' => StepPost w (wipeS blk) e w' := by
  go_enter Tryz.func114, Tryz.ntmps114
  go_wp2
  exact bodyPost_ret (v := .agg (stC (wipeS blk)).toArray) (by simp [results, Tryz.results114, go_sem]; rfl) rfl ⟨rfl, (Below.refl _ _).alloc (Nat.le_refl _) _⟩
theorem writeStep_any (blk : Int) (r : Rc) (w : World) :
    Calls Tryz.prog 115 #[.int .i64 blk, .agg (rcC r).toArray] w fun e w' => StepPost w (writeS blk r) e w' := by
  rw [show (rcC r).toArray = #[.int .i64 r.k, .int .i64 r.s, .int .i64 r.a, .int .i64 r.v] from rfl]
  go_enter Tryz.func115, Tryz.ntmps115
  go_wp2
  exact bodyPost_ret (v := .agg (stC (writeS blk r)).toArray) (by simp [results, Tryz.results115, go_sem]; rfl) rfl ⟨rfl, ((Below.refl _ _).alloc (Nat.le_refl _) _).alloc (by simp) _⟩

theorem Sts.nilN (w : World) (lo : Nat) : Sts w lo (.slice none 0 0) [] :=
  ⟨⟨by simp [maxLen, stsC], .inl ⟨rfl, rfl⟩⟩, fun g hg => by simp [Value.ownBlock] at hg⟩
theorem size_ps4 {ps : List Pg} (h4 : ps.length = 4) : (Tryz.prog.info? 67).map (·.size) = some (psC ps).length := by rw [len_psC, h4]; kernel_rfl
theorem pg_lit (p : Pg) : #[.int .i64 p.st, .int .i64 p.k, .int .i64 p.s, .int .i64 p.a, .int .i64 p.v] = (pgC p).toArray := rfl

set_option maxRecDepth 100000 in
set_option maxHeartbeats 2000000 in
theorem toSave_any (ks : List Bk) (hok : okB ks = true) (mb : Nat) (dk : List Int) (h6 : dk.length = 6) (k : Nat) (hk : k < 4) (w : World) :
    Calls Tryz.prog 156 #[.agg (skC ks mb dk).toArray, .int .i64 (k : Nat)] w fun e w' => StpPost w (tellP ks (ks.getD k zBk).ps) e w' := by
  have hk4 := ok_len hok
  have hkF := ok_fours hok
  have hkb : k < ks.length := by omega
  have hb4 : ks[k].ps.length = 4 := hkF.at k hkb
  rw [getD_at ks k hkb]
  have cS := CsAt.new w (skC ks mb dk) 78
  have B0 : Below w.heap.size w (w.alloc (.cells (skC ks mb dk).toArray 78)) := (Below.refl _ _).alloc (Nat.le_refl _) _
  have s0 : w.heap.size + 1 ≤ (w.alloc (.cells (skC ks mb dk).toArray 78)).heap.size := by simp
  have rP := range_bk (sub_fs hkF (sk_flash cS.cells) k hkb)
  have HSA := hide (size_ps4 hb4)
  have HLV := hide (fun (p : Pg) (w' : World) => lives_any ks hk4 hkF p w')
  have HSF := hide (size_fsl hkF hk4)
  have HT0 : Hid (tellP ks (ks[k].ps.take 0) = []) := rfl
  have HT4 : Hid (tellP ks (ks[k].ps.take 4) = tellP ks ks[k].ps) := by show _ = _; rw [List.take_of_length_le (by omega)]
  have hlo : (0 : Int) ≤ (k : Int) := by omega
  have hhi : (k : Int) < 4 := by omega
  clear hok
  generalize ks[k] = b at *
  go_enter Tryz.func156, Tryz.ntmps156
  go_wp2_with (first | (refine wpList_box_big rfl _ _ rfl (skC ks mb dk).toArray rfl ?_) | (refine wpList_load_mid rfl 67 _ rfl w.heap.size (k * 21) rfl (psC b.ps) _ rP Tryz.underlying67 rfl (unhide HSA) ?_))
  clear rP
  generalize w.alloc (.cells (skC ks mb dk).toArray 78) = w1 at *
  go_loopw [5, 14] (fun v i w' => ∃ n : Nat, n ≤ 4 ∧ i = .int .i64 n ∧ Sts w' (w.heap.size + 1) v (tellP ks (b.ps.take n)) ∧ CsAt w' w.heap.size (skC ks mb dk) ∧ w.heap.size + 1 ≤ w'.heap.size ∧ Below w.heap.size w w') (fun _ i _ => 4 - (intOf i).toNat)
  case atStart => exact ⟨0, by omega, rfl, by rw [unhide HT0]; exact Sts.nilN _ _, cS, s0, B0⟩
  case round =>
    clear cS s0 B0
    obtain ⟨n, hn, rfl, hS, hC, hsz, hB⟩ := hrel
    by_cases h0 : n = 4
    · subst h0
      rw [unhide HT4] at hS
      go_wp2
      go_ret
      exact ⟨_, rfl, hS.mono (by omega), hB⟩
    · have hnl : (n : Int) < 4 := by omega
      have hnb : n < b.ps.length := by omega
      have hn0 : (0 : Int) ≤ (n : Int) := by omega
      have HE := hide (ext_ps b.ps n hnb)
      have HTK := hide (tellP_take ks b.ps n hnb)
      have hl4 : (tellP ks (b.ps.take n)).length ≤ 4 := by have := tellP_len ks (b.ps.take n); rw [List.length_take] at this; omega
      generalize b.ps[n] = p at *
      generalize tellP ks (b.ps.take n) = L at *
      have bn : Below wr.heap.size wr (wr.alloc (.cells #[.int .i64 p.st, .int .i64 p.k, .int .i64 p.s, .int .i64 p.a, .int .i64 p.v] 66)) := (Below.refl _ _).alloc (Nat.le_refl _) _
      have hC2 := hC.below bn (by omega)
      have hS2 := hS.below bn (Nat.le_refl _)
      have hB2 := hB.trans (bn.mono hB.size)
      have cP : CsAt (wr.alloc (.cells #[.int .i64 p.st, .int .i64 p.k, .int .i64 p.s, .int .i64 p.a, .int .i64 p.v] 66)) wr.heap.size (pgC p) := CsAt.new wr (pgC p) 66
      have hsz2 : wr.heap.size + 1 ≤ (wr.alloc (.cells #[.int .i64 p.st, .int .i64 p.k, .int .i64 p.s, .int .i64 p.a, .int .i64 p.v] 66)).heap.size := by simp
      have e0 := cP.cell 0 _ rfl
      have e1 := cP.cell 1 _ rfl
      have e2 := cP.cell 2 _ rfl
      have e3 := cP.cell 3 _ rfl
      have e4 := cP.cell 4 _ rfl
      have rF := sk_flash hC2.cells
      clear hC hS hB bn
      go_wp2_with (first | (refine wpList_index_big rfl 67 _ _ rfl (psC b.ps).toArray _ (n : Int) rfl rfl 66 4 5 _ Tryz.underlying67 Tryz.underlying66 rfl (by kernel_rfl) hn0 hnl (unhide HE) ?_) | (refine wpList_load_mid rfl 73 _ rfl w.heap.size 0 rfl (fsC ks) _ rF Tryz.underlying73 rfl (unhide HSF) ?_))
      clear rF e0 e1 e2 e3 e4
      generalize wr.alloc (.cells #[.int .i64 p.st, .int .i64 p.k, .int .i64 p.s, .int .i64 p.a, .int .i64 p.v] 66) = w4 at *
      generalize hbx : wr.heap.size = bx at *
      rw [pg_lit]
      refine (unhide HLV p _).mono ?_
      rintro e w5 ⟨rfl, b5⟩
      have hC5 := hC2.below b5 (by omega)
      have hS5 := hS2.below b5 (Nat.le_refl _)
      have hB5 := hB2.trans (b5.mono hB2.size)
      have cP5 := cP.below b5 (by omega)
      have hsz5 : w.heap.size + 1 ≤ w5.heap.size := by have := b5.size; omega
      have hbx5 : bx < w5.heap.size := by have := b5.size; omega
      clear hC2 hS2 hB2 b5 cP
      have e1 := cP5.cell 1 _ rfl
      have e2 := cP5.cell 2 _ rfl
      have e3 := cP5.cell 3 _ rfl
      have e4 := cP5.cell 4 _ rfl
      generalize liveB ks p = lv at *
      cases lv
      · have HT : Hid (tellP ks (b.ps.take (n + 1)) = L) := by show _ = _; rw [unhide HTK]; simp
        go_wp2
        go_roundw
        case rel => exact ⟨n + 1, by omega, by first | rfl | go_num, by rw [unhide HT]; exact hS5, hC5, hsz5, hB5⟩
        case measure => simp [intOf]; omega
      · go_wp2_with fail
        rw [show #[.int .i64 p.k, .int .i64 p.s, .int .i64 p.a, .int .i64 p.v] = (rcC (pgRc p)).toArray from rfl]
        refine (rdirty_any (pgRc p) _).mono ?_
        rintro e w6 ⟨rfl, b6⟩
        have hC6 := hC5.below b6 (by omega)
        have hS6 := hS5.below b6 (Nat.le_refl _)
        have hB6 := hB5.trans (b6.mono hB5.size)
        have cP6 := cP5.below b6 (by omega)
        have hsz6 : w.heap.size + 1 ≤ w6.heap.size := by have := b6.size; omega
        have hbx6 : bx < w6.heap.size := by have := b6.size; omega
        clear hC5 hS5 hB5 b6 cP5 e1 e2 e3 e4
        rw [show (pgRc p).k = p.k from rfl]
        have e3 := cP6.cell 3 _ rfl
        have e4 := cP6.cell 4 _ rfl
        by_cases hk1 : p.k = 1
        · have g1 : (p.k == 1) = true := by simpa using hk1
          have HT : Hid (tellP ks (b.ps.take (n + 1)) = L ++ [diskS p.a p.v]) := by show _ = _; rw [unhide HTK, g1]; rfl
          have HNL : Hid (L.length + 1 ≤ 5) := by show _ ≤ _; omega
          rw [g1]
          clear hk1
          go_wp2_with fail
          refine (diskStep_any p.a p.v _).mono ?_
          rintro e w8 ⟨rfl, b8⟩
          have hC8 := hC6.below b8 (by omega)
          have hS8 := hS6.below b8 (Nat.le_refl _)
          have hB8 := hB6.trans (b8.mono hB6.size)
          have hsz8 : w.heap.size + 1 ≤ w8.heap.size := by have := b8.size; omega
          clear hC6 hS6 hB6 b8 cP6 e3 e4
          obtain ⟨iS, hiS, hzS, hsS, hbS⟩ := infoS
          have bm : Below w8.heap.size w8 (w8.alloc (.cells (stC (diskS p.a p.v)).toArray 38)) := (Below.refl _ _).alloc (Nat.le_refl _) _
          have hC9 := hC8.below bm (by omega)
          have hS9 := hS8.below bm (Nat.le_refl _)
          have hB9 := hB8.trans (bm.mono hB8.size)
          have nw := CsAt.new w8 (stC (diskS p.a p.v)) 38
          have hsz9 : w.heap.size + 1 ≤ (w8.alloc (.cells (stC (diskS p.a p.v)).toArray 38)).heap.size := by simp; omega
          have hR9 := hS9.row
          have hnw := src_mid nw.cells
          clear bm hS8 hB8 hC8
          rw [show (stC (diskS p.a p.v)).toArray = #[.int .i64 1, .int .i64 p.a, .int .i64 p.v, .int .i64 0, .int .i64 0, .int .i64 0, .int .i64 0, .int .i64 0] from rfl] at *
          go_wp2_with (refine wpList_append_own _ rfl _ _ 27 rfl (w.heap.size + 1) 38 iS (.agg (stC zSt).toArray) 8 64 Tryz.underlying27 hiS hzS hsS hbS rfl (by omega) _ L.length (stsC L) rfl hR9 ⟨w8.heap.size, 0, none⟩ 1 1 (stC (diskS p.a p.v)) rfl rfl hnw (one_stC _) (by have := unhide HNL; simp [maxLen]; omega) (by have := unhide HNL; omega) (by omega) ?_; intro v' w7 ho7 hg7 _)
          obtain ⟨P7, b7⟩ := hS9.push (by omega) ho7 hg7
          have hC7 := hC9.below b7 (by omega)
          have hB7 := hB9.trans (b7.mono (by omega))
          have hsz7 : w.heap.size + 1 ≤ w7.heap.size := by have := b7.size; omega
          rw [← unhide HT] at P7
          clear hS9 hC9 hB9 ho7 hg7 hR9 hnw nw b7
          go_wp2
          go_roundw
          case rel => exact ⟨n + 1, by omega, by first | rfl | go_num, P7, hC7, hsz7, hB7⟩
          case measure => simp [intOf]; omega
        · have g1 : (p.k == 1) = false := by simpa using hk1
          have HT : Hid (tellP ks (b.ps.take (n + 1)) = L) := by show _ = _; rw [unhide HTK, g1]; simp
          rw [g1]
          clear hk1
          go_wp2
          go_roundw
          case rel => exact ⟨n + 1, by omega, by first | rfl | go_num, by rw [unhide HT]; exact hS6, hC6, hsz6, hB6⟩
          case measure => simp [intOf]; omega
end Go.Proofs.YtbiokmojjneleaaGreat.TwA

/-
  The program's steps by which a record is written: to write it, behind what a wipe needs.
-/
namespace Go.Proofs.YtbiokmojjneleaaGreat.TwB
open Go.ChangeShapes Go.WideShapes Go.ChangeAt Go.RowKit Go.Shelf OkA Big Fl ImplB ImplF ImplS _root_.Go.Proofs.YtbiokmojjneleaaGreat.Own ImplT ImplU SpecA SpecB SpecC SpecD SpecW SpecF SpecG SpecH Ok2 Pl FindP ImplO FindO SpecX ImplL FindN FindL FindV FindD Kp StA RmA WrA FlA StB StC StD StF StG TwA
set_option linter.unusedVariables false
set_option linter.unusedSimpArgs false
attribute [local go_sem ↓] Go.wp_at_zero Go.wp_at_succ

theorem Sts.one (w : World) (lo : Nat) (x : Stp) (hl : lo ≤ w.heap.size) : Sts (w.alloc (.cells (stC x).toArray 38)) lo (.slice (some ⟨w.heap.size, 0, none⟩) 1 1) [x] :=
  ⟨by have := World.ownsRow_lit (e := 38) (size := 8) w (stC x).toArray 1 hl (by simp [maxLen]) rfl; simpa [stsC] using this, fun g hg => by simp [Value.ownBlock] at hg; subst hg; exact ⟨hl, by simp⟩⟩
/-- What a row that was appended to is, by some steps. -/
theorem Sts.pushL {w w' : World} {lo : Nat} {v v' : Value} {l m : List Stp} (h : Sts w lo v l) (hm : 0 < m.length) (hlo : lo ≤ w.heap.size) (ho : w'.ownsRow lo 38 8 v' (l.length + m.length) (stsC l ++ stsC m)) (hg : w.grownBy w' v.ownBlock) : Sts w' lo v' (l ++ m) ∧ Below lo w w' := by
  refine ⟨⟨by rw [show stsC (l ++ m) = stsC l ++ stsC m by simp [stsC], List.length_append]; exact ho, fun g e => ?_⟩, (Below.refl _ _).grown hg hlo (fun k e => (h.lt k e).1)⟩
  obtain ⟨_, h2⟩ := ho
  rcases h2 with ⟨_, h2⟩ | ⟨g', cap, cur, rfl, hb, hh, _⟩
  · omega
  · simp [Value.ownBlock] at e
    subst e
    refine ⟨hb, ?_⟩
    by_cases hlt : g' < w'.heap.size
    · exact hlt
    · have : w'.heap[g']? = none := by simp; omega
      rw [this] at hh; cases hh
theorem one_stsC (l : List Stp) : ∀ v ∈ stsC l, v.oneCell' = true := by
  intro v hv
  simp only [stsC, List.mem_flatMap] at hv
  obtain ⟨x, _, h⟩ := hv
  exact one_stC x v h
theorem size_rc4 (r : Rc) : (Tryz.prog.info? 36).map (·.size) = some (rcC r).length := by show _ = some 4; kernel_rfl

set_option maxRecDepth 100000 in
set_option maxHeartbeats 4000000 in
theorem toWrite_any (ks : List Bk) (hok : okB ks = true) (mb : Nat) (dk : List Int) (h6 : dk.length = 6) (kind addr val : Int) (w : World) :
    Calls Tryz.prog 146 #[.agg (skC ks mb dk).toArray, .int .i64 kind, .int .i64 addr, .int .i64 val] w fun e w' => StpPost w (writeP ks kind addr val) e w' := by
  have hk4 := ok_len hok
  have hkF := ok_fours hok
  have cS := CsAt.new w (skC ks mb dk) 78
  have B0 : Below w.heap.size w (w.alloc (.cells (skC ks mb dk).toArray 78)) := (Below.refl _ _).alloc (Nat.le_refl _) _
  have s0 : w.heap.size + 1 ≤ (w.alloc (.cells (skC ks mb dk).toArray 78)).heap.size := by simp
  have rF := sk_flash cS.cells
  have HSF := hide (size_fsl hkF hk4)
  have HSK := hide (size_sk (mb := mb) hk4 hkF h6)
  have HNX := hide (nextK_any ks hok)
  have HOP := hide (openK_any ks hk4 hkF)
  have HOI := hide (openI_R ks hok)
  have HOL := hide (oldK_any ks hok)
  have HSV := hide (fun (k : Nat) (hk : k < 4) (w' : World) => toSave_any ks hok mb dk h6 k hk w')
  have HOB : Hid (oldN ks 3 < 4) := by show _ < _; have := oldN_le ks 3; omega
  have HWN : Hid (∀ k (hk : k < ks.length), 0 ≤ ks[k].wn ∧ ks[k].wn ≤ 200) := fun k hk => ok_worn hok k hk
  have HWP : Hid (writeP ks kind addr val = if roomO ks && recB kind (mostB ks + 1) addr val then roomL ks ++ [writeS (roomB ks) ⟨kind, mostB ks + 1, addr, val⟩] else []) := rfl
  have HO1 : Hid (roomB ks = if (openR ks).2 then (openR ks).1 else (oldN ks 3 : Nat)) := rfl
  have HO2 : Hid (roomO ks = ((openR ks).2 || decide ((ks.getD (oldN ks 3) zBk).wn < 200))) := rfl
  have HO3 : Hid (roomL ks = if (openR ks).2 then [] else tellP ks (ks.getD (oldN ks 3) zBk).ps ++ [wipeS (oldN ks 3 : Nat)]) := rfl
  rw [unhide HOI] at HOP
  clear hok HOI
  go_enter Tryz.func146, Tryz.ntmps146
  go_wp2_with (first | (refine wpList_box_big rfl _ _ rfl (skC ks mb dk).toArray rfl ?_) | (refine wpList_load_mid rfl 73 _ rfl w.heap.size 0 rfl (fsC ks) _ rF Tryz.underlying73 rfl (unhide HSF) ?_))
  generalize w.alloc (.cells (skC ks mb dk).toArray 78) = w1 at *
  refine (unhide HNX _).mono ?_
  rintro e w2 ⟨rfl, b2⟩
  generalize mostB ks + 1 = m at *
  have cS2 := cS.below b2 (by omega)
  have B2 := B0.trans (b2.mono B0.size)
  have s2 : w.heap.size + 1 ≤ w2.heap.size := by have := b2.size; omega
  clear rF cS B0 s0 b2 HNX
  have bn : Below w2.heap.size w2 (w2.alloc (.cells #[.int .i64 kind, .int .i64 m, .int .i64 addr, .int .i64 val] 36)) := (Below.refl _ _).alloc (Nat.le_refl _) _
  have cR : CsAt (w2.alloc (.cells #[.int .i64 kind, .int .i64 m, .int .i64 addr, .int .i64 val] 36)) w2.heap.size (rcC ⟨kind, m, addr, val⟩) := CsAt.new w2 (rcC ⟨kind, m, addr, val⟩) 36
  have cS3 := cS2.below bn (by omega)
  have B3 := B2.trans (bn.mono B2.size)
  have s3 : w2.heap.size + 1 ≤ (w2.alloc (.cells #[.int .i64 kind, .int .i64 m, .int .i64 addr, .int .i64 val] 36)).heap.size := by simp
  have HRC := hide (recOk_any kind m addr val)
  clear cS2 B2 bn
  go_upto_region 2 with fail
  generalize w2.alloc (.cells #[.int .i64 kind, .int .i64 m, .int .i64 addr, .int .i64 val] 36) = w3 at *
  generalize hRB : w2.heap.size = br at *
  have hbr : w.heap.size + 1 ≤ br := by omega
  clear hRB
  have d0 := cR.cell 0 _ rfl
  have d1 := cR.cell 1 _ rfl
  have d2 := cR.cell 2 _ rfl
  have d3 := cR.cell 3 _ rfl
  go_wp2_with fail
  refine (unhide HRC _).mono ?_
  rintro e w4 ⟨rfl, b4⟩
  have cR4 := cR.below b4 (by omega)
  have cS4 := cS3.below b4 (by omega)
  have B4 := B3.trans (b4.mono B3.size)
  have s4 : br + 1 ≤ w4.heap.size := by have := b4.size; omega
  clear d0 d1 d2 d3 cR cS3 B3 s3 b4 HRC
  cases hrb : recB kind m addr val
  · have HE : Hid (writeP ks kind addr val = []) := by show _ = _; rw [unhide HWP, hrb, Bool.and_false]; rfl
    go_wp2
    go_ret
    exact ⟨_, rfl, by rw [unhide HE]; exact Sts.nilN _ _, B4⟩
  rw [hrb, Bool.and_true] at HWP
  have rF := sk_flash cS4.cells
  go_wp2_with (first | (refine wpList_load_mid rfl 73 _ rfl w.heap.size 0 rfl (fsC ks) _ rF Tryz.underlying73 rfl (unhide HSF) ?_))
  refine (unhide HOP _).mono ?_
  rintro e w5 ⟨rfl, b5⟩
  have cR5 := cR4.below b5 (by omega)
  have cS5 := cS4.below b5 (by omega)
  have B5 := B4.trans (b5.mono B4.size)
  have s5 : br + 1 ≤ w5.heap.size := by have := b5.size; omega
  clear rF cR4 cS4 B4 s4 b5 HOP
  generalize (openR ks).1 = op at *
  cases hoo : (openR ks).2
  rotate_left
  · rw [hoo] at HO1 HO2 HO3
    simp only [if_true, Bool.true_or] at HO1 HO2 HO3
    have HE : Hid (writeP ks kind addr val = [writeS op ⟨kind, m, addr, val⟩]) := by show _ = _; rw [unhide HWP, unhide HO1, unhide HO2, unhide HO3]; rfl
    have d0 := cR5.cell 0 _ rfl
    have d1 := cR5.cell 1 _ rfl
    have d2 := cR5.cell 2 _ rfl
    have d3 := cR5.cell 3 _ rfl
    simp only at d0 d1 d2 d3
    go_wp2_with fail
    rw [show #[.int .i64 kind, .int .i64 m, .int .i64 addr, .int .i64 val] = (rcC ⟨kind, m, addr, val⟩).toArray from rfl]
    refine (writeStep_any op ⟨kind, m, addr, val⟩ _).mono ?_
    rintro e w6 ⟨rfl, b6⟩
    have B6 := B5.trans (b6.mono B5.size)
    have nS := Sts.one w6 w.heap.size (writeS op ⟨kind, m, addr, val⟩) B6.size
    have nB := B6.alloc B6.size (.cells (stC (writeS op ⟨kind, m, addr, val⟩)).toArray 38)
    rw [← unhide HE] at nS
    clear d0 d1 d2 d3 cR5 cS5 B5 b6
    rw [show (stC (writeS op ⟨kind, m, addr, val⟩)).toArray = #[.int .i64 3, .int .i64 0, .int .i64 0, .int .i64 op, .int .i64 kind, .int .i64 m, .int .i64 addr, .int .i64 val] from rfl] at *
    go_wp2
    go_ret
    exact ⟨_, rfl, nS, nB⟩
  rw [hoo] at HO1 HO2 HO3
  simp only [Bool.false_eq_true, if_false, Bool.false_or] at HO1 HO2 HO3
  have rF := sk_flash cS5.cells
  go_wp2_with (first | (refine wpList_load_mid rfl 73 _ rfl w.heap.size 0 rfl (fsC ks) _ rF Tryz.underlying73 rfl (unhide HSF) ?_))
  refine (unhide HOL _).mono ?_
  rintro e w6 ⟨rfl, b6⟩
  have cR6 := cR5.below b6 (by omega)
  have cS6 := cS5.below b6 (by omega)
  have B6 := B5.trans (b6.mono B5.size)
  have s6 : br + 1 ≤ w6.heap.size := by have := b6.size; omega
  clear rF cR5 cS5 B5 s5 b6 HOL
  have hob := unhide HOB
  have HSV2 := hide (unhide HSV (oldN ks 3) hob)
  generalize hod : oldN ks 3 = od at *
  have hkb : od < ks.length := by omega
  have hb4 : ks[od].ps.length = 4 := hkF.at od hkb
  rw [getD_at ks od hkb] at HO2 HO3 HSV2
  have hwn := unhide HWN od hkb
  have c20 := worn_bk hb4 (sub_fs hkF (sk_flash cS6.cells) od hkb)
  have hlo : (0 : Int) ≤ (od : Int) := by omega
  have hhi : (od : Int) < 4 := by omega
  have HTL := hide (tellP_len ks ks[od].ps)
  rw [hb4] at HTL
  clear HWN HSV hod
  generalize ks[od] = b at *
  by_cases hw : b.wn = 200
  · have hw' : (b.wn == 200) = true := by simpa using hw
    have HE : Hid (writeP ks kind addr val = []) := by show _ = _; rw [unhide HWP, unhide HO2, hw]; rfl
    clear hw
    go_wp2
    go_ret
    exact ⟨_, rfl, by rw [unhide HE]; exact Sts.nilN _ _, B6⟩
  have hw' : (b.wn == 200) = false := by simpa using hw
  have HE : Hid (writeP ks kind addr val = tellP ks b.ps ++ [wipeS (od : Nat), writeS (od : Nat) ⟨kind, m, addr, val⟩]) := by
    show _ = _
    rw [unhide HWP, unhide HO1, unhide HO2, unhide HO3, show decide (b.wn < 200) = true by simp; omega]
    simp
  clear hw
  have HSR := hide (size_rc4 ⟨kind, m, addr, val⟩)
  go_wp2_with fail
  clear c20
  refine wp_region_noPanic ?_
  refine wp_region_held_drew (S := fun w' => CsAt w' w.heap.size (skC ks mb dk) ∧ CsAt w' br (rcC ⟨kind, m, addr, val⟩) ∧ w6.heap.size ≤ w'.heap.size) (by kernel_rfl) (⟨⟨fun j v hv => cS6.cells j v hv, fun j hj => cS6.free j hj⟩, ⟨fun j v hv => cR6.cells j v hv, fun j hj => cR6.free j hj⟩, Nat.le_refl _⟩) (fun hHeld => ?_)
  refine takeL 0 (_) rfl (by kernel_rfl) (by kernel_rfl) (by kernel_rfl) (fun _ _ _ h => h) (yieldsIf_load_mid rfl 78 _ rfl w.heap.size 0 rfl (skC ks mb dk) _ (fun _ h => h.1.cells) Tryz.underlying78 rfl (unhide HSK)) hHeld ?_
  try simp only [Act.put, List.setIfInBounds_toArray, List.set_cons_zero, List.set_cons_succ]
  refine takeL 1 (.int .i64 (od : Nat)) rfl (by kernel_rfl) (by kernel_rfl) (by kernel_rfl) (fun _ _ _ h => h) (Or.inl ⟨rfl, fun _ _ => rfl⟩) hHeld ?_
  try simp only [Act.put, List.setIfInBounds_toArray, List.set_cons_zero, List.set_cons_succ]
  refine takeL 3 (.int .i64 (od : Nat)) rfl (by kernel_rfl) (by kernel_rfl) (by kernel_rfl) (fun _ _ _ h => h) (Or.inl ⟨rfl, fun _ _ => rfl⟩) hHeld ?_
  try simp only [Act.put, List.setIfInBounds_toArray, List.set_cons_zero, List.set_cons_succ]
  refine takeL 5 (.int .i64 (od : Nat)) rfl (by kernel_rfl) (by kernel_rfl) (by kernel_rfl) (fun _ _ _ h => h) (Or.inl ⟨rfl, fun _ _ => rfl⟩) hHeld ?_
  try simp only [Act.put, List.setIfInBounds_toArray, List.set_cons_zero, List.set_cons_succ]
  refine takeL 6 (_) rfl (by kernel_rfl) (by kernel_rfl) (by kernel_rfl) (fun _ _ _ h => h) (yieldsIf_load_mid rfl 36 _ rfl br 0 rfl (rcC ⟨kind, m, addr, val⟩) _ (fun _ h => h.2.1.cells) Tryz.underlying36 rfl (unhide HSR)) hHeld ?_
  try simp only [Act.put, List.setIfInBounds_toArray, List.set_cons_zero, List.set_cons_succ]
  refine oneL 2 rfl (by kernel_rfl) rfl (fun K hK => ?_)
  go_simp
  refine (unhide HSV2 _).mono ?_
  rintro e w7 ⟨v, rfl, hS7, b7⟩
  go_wp2_with fail
  refine hK.out _ _ ⟨hHeld.1.below b7 (by have := hHeld.2.2; omega), hHeld.2.1.below b7 (by have := hHeld.2.2; omega), Nat.le_trans hHeld.2.2 b7.size⟩ (fun hHeld => ?_)
  clear hK K
  try simp only [Act.put, List.setIfInBounds_toArray, List.set_cons_zero, List.set_cons_succ]
  refine oneL 4 rfl (by kernel_rfl) rfl (fun K hK => ?_)
  go_simp
  refine (wipeStep_any (od : Nat) _).mono ?_
  rintro e w8 ⟨rfl, b8⟩
  go_wp2_with fail
  refine hK.out _ _ ⟨hHeld.1.below b8 (by have := hHeld.2.2; omega), hHeld.2.1.below b8 (by have := hHeld.2.2; omega), Nat.le_trans hHeld.2.2 b8.size⟩ (fun hHeld => ?_)
  clear hK K
  try simp only [Act.put, List.setIfInBounds_toArray, List.set_cons_zero, List.set_cons_succ]
  refine oneL 7 rfl (by kernel_rfl) rfl (fun K hK => ?_)
  go_simp
  refine (writeStep_any (od : Nat) ⟨kind, m, addr, val⟩ _).mono ?_
  rintro e w9 ⟨rfl, b9⟩
  go_wp2_with fail
  refine hK.out _ _ ⟨hHeld.1.below b9 (by have := hHeld.2.2; omega), hHeld.2.1.below b9 (by have := hHeld.2.2; omega), Nat.le_trans hHeld.2.2 b9.size⟩ (fun hHeld => ?_)
  clear hK K
  try simp only [Act.put, List.setIfInBounds_toArray, List.set_cons_zero, List.set_cons_succ]
  have q6 := B6.size
  have B6d := B6.drew
  have B7 := B6d.trans (b7.mono B6d.size)
  have B8 := B7.trans (b8.mono B7.size)
  have B9 := B8.trans (b9.mono B8.size)
  have hS9 : Sts w9 w6.heap.size v (tellP ks b.ps) := (hS7.below b8 (Nat.le_refl _)).below b9 (Nat.le_refl _)
  have bA : Below w9.heap.size w9 (w9.alloc (.cells (stsC [wipeS (od : Nat), writeS (od : Nat) ⟨kind, m, addr, val⟩]).toArray 38)) := (Below.refl _ _).alloc (Nat.le_refl _) _
  have nw := CsAt.new w9 (stsC [wipeS (od : Nat), writeS (od : Nat) ⟨kind, m, addr, val⟩]) 38
  have hSA := hS9.below bA (Nat.le_refl _)
  have BA := B9.trans (bA.mono B9.size)
  clear hS7 b7 b8 b9 hS9 B6d B7 B8
  rw [show (stC (wipeS (od : Nat))).toArray = #[.int .i64 2, .int .i64 0, .int .i64 0, .int .i64 (od : Nat), .int .i64 0, .int .i64 0, .int .i64 0, .int .i64 0] from rfl, show (stC (writeS (od : Nat) ⟨kind, m, addr, val⟩)).toArray = #[.int .i64 3, .int .i64 0, .int .i64 0, .int .i64 (od : Nat), .int .i64 kind, .int .i64 m, .int .i64 addr, .int .i64 val] from rfl]
  refine oneL 8 rfl (by kernel_rfl) rfl (fun K hK => ?_)
  go_simp
  rw [show #[Value.int .i64 2, .int .i64 0, .int .i64 0, .int .i64 (od : Nat), .int .i64 0, .int .i64 0, .int .i64 0, .int .i64 0, .int .i64 3, .int .i64 0, .int .i64 0, .int .i64 (od : Nat), .int .i64 kind, .int .i64 m, .int .i64 addr, .int .i64 val] = (stsC [wipeS (od : Nat), writeS (od : Nat) ⟨kind, m, addr, val⟩]).toArray from rfl]
  have HA : CsAt (w9.alloc (.cells (stsC [wipeS (od : Nat), writeS (od : Nat) ⟨kind, m, addr, val⟩]).toArray 38)) w.heap.size (skC ks mb dk) ∧ CsAt (w9.alloc (.cells (stsC [wipeS (od : Nat), writeS (od : Nat) ⟨kind, m, addr, val⟩]).toArray 38)) br (rcC ⟨kind, m, addr, val⟩) ∧ w6.heap.size ≤ (w9.alloc (.cells (stsC [wipeS (od : Nat), writeS (od : Nat) ⟨kind, m, addr, val⟩]).toArray 38)).heap.size := ⟨hHeld.1.below bA (by have := hHeld.2.2; omega), hHeld.2.1.below bA (by have := hHeld.2.2; omega), Nat.le_trans hHeld.2.2 bA.size⟩
  clear hHeld
  refine hK.out _ _ HA (fun hHeld => ?_)
  clear hK K HA
  try simp only [Act.put, List.setIfInBounds_toArray, List.set_cons_zero, List.set_cons_succ]
  generalize w9.alloc (.cells (stsC [wipeS (od : Nat), writeS (od : Nat) ⟨kind, m, addr, val⟩]).toArray 38) = wA at *
  generalize w9.heap.size = bn at *
  generalize tellP ks b.ps = L at *
  obtain ⟨iS, hiS, hzS, hsS, hbS⟩ := infoS
  refine oneL 9 rfl (by kernel_rfl) rfl (fun K hK => ?_)
  refine wp_append_own wA _ _ 27 rfl w6.heap.size 38 iS (.agg (stC zSt).toArray) 8 64 Tryz.underlying27 hiS hzS hsS hbS rfl (by omega) _ L.length (stsC L) rfl hSA.row ⟨bn, 0, none⟩ 2 2 (stsC [wipeS (od : Nat), writeS (od : Nat) ⟨kind, m, addr, val⟩]) rfl rfl (src_mid nw.cells) (one_stsC _) (by have := unhide HTL; simp [maxLen]; omega) (by have := unhide HTL; omega) hHeld.2.2 ?_
  intro v' wB hoB hgB _
  obtain ⟨PB, bB⟩ := Sts.pushL (m := [wipeS (od : Nat), writeS (od : Nat) ⟨kind, m, addr, val⟩]) hSA (by simp) hHeld.2.2 hoB hgB
  have BB := BA.trans (bB.mono q6)
  refine hK.out _ _ ⟨hHeld.1.below bB (by omega), hHeld.2.1.below bB (by omega), Nat.le_trans hHeld.2.2 bB.size⟩ (fun hHeld => ?_)
  clear hK K
  try simp only [Act.put, List.setIfInBounds_toArray, List.set_cons_zero, List.set_cons_succ]
  refine takeL 10 (v') rfl (by kernel_rfl) (by kernel_rfl) (by kernel_rfl) (fun _ _ _ h => h) (Or.inl ⟨rfl, fun _ _ => rfl⟩) hHeld ?_
  try simp only [Act.put, List.setIfInBounds_toArray, List.set_cons_zero, List.set_cons_succ]
  refine wpAnyH_done (by kernel_rfl) ?_ _
  refine NoPanic.normal ?_
  go_wp2
  go_ret
  exact ⟨v', rfl, by rw [unhide HE]; exact PB.mono q6, BB⟩
end Go.Proofs.YtbiokmojjneleaaGreat.TwB

/-
  The specification's StepsPut, StepsFlush and StepsFill, at every store.
-/
namespace Go.Proofs.YtbiokmojjneleaaGreat.SpU
open Go.ChangeShapes Go.WideShapes Go.ChangeAt Go.RowKit Go.Shelf OkA Big Fl ImplB ImplF ImplS _root_.Go.Proofs.YtbiokmojjneleaaGreat.Own ImplT ImplU SpecA SpecB SpecC SpecD SpecW SpecF SpecG SpecH Ok2 Pl FindP SpecX ImplL FindN FindL FindV Kp StA RmA WrA FlA StB StD StF StG SpS SpT
set_option linter.unusedVariables false
set_option linter.unusedSimpArgs false
attribute [local go_sem ↓] Go.wp_at_zero Go.wp_at_succ

def putS (bs : List Bk) (dk : List Int) (addr val : Int) : List Stp := if stB bs dk then writeP bs 1 addr val else []
def flushS (bs : List Bk) (dk : List Int) (addr : Int) : List Stp := if stB bs dk then flushP bs dk addr else []
def fillS (bs : List Bk) (dk : List Int) (addr : Int) : List Stp := if stB bs dk then fillP bs dk addr else []
theorem fs_some {w : World} {fa : Option Addr} {bs : List Bk} (h : FsAt w fa bs) (h4 : bs.length = 4) : ∃ b o, fa = some ⟨b, o, none⟩ ∧ ∀ i (hi : i < bs.length), BkAt w b (o + i * 2) bs[i] := by
  rcases h with rfl | h
  · simp at h4
  · exact h
theorem dk_some {w : World} {da : Option Addr} {dk : List Int} (h : DkAt w da dk) (h6 : dk.length = 6) : ∃ b o, da = some ⟨b, o, none⟩ ∧ w.rangeAt b o (isC dk) := by
  rcases h with rfl | h
  · simp at h6
  · exact h

theorem here : True := trivial
end Go.Proofs.YtbiokmojjneleaaGreat.SpU
