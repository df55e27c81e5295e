/-
  The last record of an address has the greatest number: so it has in drawn blocks. The given statement, with no condition.
-/
import Derived.Test.YtogioeflbbmppaaLh
import Derived.Test.YtogioeflbbmppaaFacts
import Derived.Lib.SmallJoins
namespace Go.Proofs.Ytogioeflbbmppaa.Last
open Go.ChangeShapes Go.WideShapes Go.ChangeAt Go.RowKit Go.Shelf Go.Joins OkA Big Fl ImplB ImplF ImplS ImplT ImplU SpecA SpecB SpecC SpecD SpecW SpecX SpecF SpecG SpecH FindP FindN FindO FindD ImplW ImplX Pick Draw ClA DrB PlB ImplL Pl FindL LawsE PlC Lh
open FlB (FsN)
open Facts (own laidOut)
set_option linter.unusedVariables false
set_option linter.unusedSimpArgs false
attribute [local go_sem ↓] Go.wp_at_zero Go.wp_at_succ

theorem implLast_5 (a : Option Addr) (cap : Nat) (addr : Int) (bs : List Bk) (w : World) (hf : FsAt w a bs) (hm : bs.length ≤ 9223372036854775807) (r : Rc) (o : Bool) (hr : flR bs addr = r) (ho : flO bs addr = o) :
    Calls Try.prog 41 #[.slice a bs.length cap, .int .i64 addr] w fun e w' => e = .returned (.tuple #[.agg #[.int .i64 r.k, .int .i64 r.s, .int .i64 r.a, .int .i64 r.v], .bool o]) ∧ Below w.heap.size w w' := by
  subst hr ho
  exact implLast_any a cap addr bs w hf hm
theorem specLast_5 (a : Option Addr) (cap : Nat) (addr : Int) (bs : List Bk) (w : World) (hf : FsAt w a bs) (hm : bs.length ≤ 1048576) (hp : ∀ b ∈ bs, b.ps.length ≤ 1048576) (r : Rc) (o : Bool) (hr : flR bs addr = r) (ho : flO bs addr = o) :
    Calls Try.prog 40 #[.slice a bs.length cap, .int .i64 addr] w fun e w' => e = .returned (.tuple #[.agg #[.int .i64 r.k, .int .i64 r.s, .int .i64 r.a, .int .i64 r.v], .bool o]) ∧ Below w.heap.size w w' := by
  subst hr ho
  exact specLast_any a cap addr bs w hf hm hp
def ofA (ad : Int) (p : Pg) : Prop := p.st = 1 ∧ p.a = ad
theorem any_next {q : Pg → Prop} {ps : List Pg} {j : Nat} (hj : j < ps.length) {P : Prop} {t t' : Bool} (h : t = true ↔ (P ∨ ∃ p ∈ ps.take j, q p)) (hn : (t' = true ↔ (t = true ∨ q ps[j]))) : t' = true ↔ (P ∨ ∃ p ∈ ps.take (j + 1), q p) := by
  rw [hn, h, List.take_succ_eq_append_getElem hj]
  constructor
  · rintro ((h | ⟨p, hp, h⟩) | h)
    · exact .inl h
    · exact .inr ⟨p, List.mem_append.2 (.inl hp), h⟩
    · exact .inr ⟨ps[j], List.mem_append.2 (.inr (List.mem_singleton.2 rfl)), h⟩
  · rintro (h | ⟨p, hp, h⟩)
    · exact .inl (.inl h)
    · rcases List.mem_append.1 hp with hp | hp
      · exact .inl (.inr ⟨p, hp, h⟩)
      · rw [List.mem_singleton.1 hp] at h; exact .inr h
theorem last_any {bs : List Bk} (hok : okB bs = true) {ad : Int} : flO bs ad = true ↔ ∃ b ∈ bs, ∃ p ∈ b.ps, ofA ad p := by
  rw [flO_ok hok]
  obtain ⟨h1, h2⟩ := last_spec bs ad
  constructor
  · intro h
    rcases h2 with e | ⟨b, hb, p, hp, h3, h4, _⟩
    · rw [e] at h; simp [noRc, zRc] at h
    · exact ⟨b, hb, p, hp, h3, h4⟩
  · rintro ⟨b, hb, p, hp, h3, h4⟩
    have h5 := h1 b hb p hp h3 h4
    have h6 := FindP.pg_seq (FindP.ok_pages hok b hb p hp)
    have h7 : 1 ≤ p.s := by
      rcases h6 with h6 | h6
      · exact h6.2.1
      · exact absurd h3 h6.1
    have : (lastR bs ad).s ≠ 0 := by omega
    simp [noRc, this]
theorem last_is {bs : List Bk} (hok : okB bs = true) {ad : Int} (h : flO bs ad = true) : (∃ b ∈ bs, ∃ p ∈ b.ps, isRec (flR bs ad).k (flR bs ad).s (flR bs ad).a (flR bs ad).v p) ∧ (flR bs ad).a = ad := by
  rw [flR_ok hok]
  rcases (last_spec bs ad).2 with e | ⟨b, hb, p, hp, h3, h4, e⟩
  · rw [flO_ok hok, e] at h; simp [noRc, zRc] at h
  · rw [e]; exact ⟨⟨b, hb, p, hp, h3, rfl, rfl, rfl, rfl⟩, h4⟩

set_option maxRecDepth 100000 in
set_option maxHeartbeats 8000000 in
theorem walk (a0 : Option Addr) (len0 cap0 : Nat) (z0 : List Int) (w : World) (h0 : IsRow .u8 w a0 len0 cap0 z0) :
    Calls Try.prog 12 #[.slice a0 len0 cap0] w fun e w' => e = .returned (.bool true) ∧ Below w.heap.size w w' := by
  have HD := hide (drawLast_any w a0 len0 cap0 z0 h0)
  clear h0
  go_enter Try.func12, Try.ntmps12
  by_cases hbig0 : 1048576 < (len0 : Int)
  · go_wp2
    go_ret
    exact ⟨rfl, Below.refl _ _⟩
  go_wp2_with fail
  refine (unhide HD).mono ?_
  rintro e w1 ⟨g, o, c, bs, ad, rfl, F1, ad0, ad1, B⟩
  have h4 := F1.four
  have hp4 := hide F1.pgs
  have hf := F1.fs
  clear HD F1
  generalize hfa : (some ⟨g, o, none⟩ : Option Addr) = fa at *
  have HSL := hide (fun (w' : World) (hF : FsAt w' fa bs) (r : Rc) (o : Bool) (hr : flR bs ad = r) (ho : flO bs ad = o) => specLast_5 fa c ad bs w' hF (by omega) (fun b hb => by have := unhide hp4 b hb; omega) r o hr ho)
  have HIL := hide (fun (w' : World) (hF : FsAt w' fa bs) (r : Rc) (o : Bool) (hr : flR bs ad = r) (ho : flO bs ad = o) => implLast_5 fa c ad bs w' hF (by omega) r o hr ho)
  have HOK := hide (fun (w' : World) (hF : FsAt w' fa bs) => specFlashOk_any fa c  bs w' hF (by omega))
  obtain ⟨r, hr⟩ : ∃ r, flR bs ad = r := ⟨_, rfl⟩
  obtain ⟨o9, ho⟩ : ∃ o, flO bs ad = o := ⟨_, rfl⟩
  have HR := hide hr
  have HO := hide ho
  have hoo : (o9 != o9) = false := by simp
  have hoe : (o9 == o9) = true := by simp
  go_wp2_with fail
  refine (unhide HSL _ hf r o9 hr ho).mono ?_
  rintro e wA ⟨rfl, b⟩
  clear hr ho
  replace hf := FsAt.below hf b
  replace B := B.trans (b.mono B.size)
  clear b
  have b : Below wA.heap.size wA (wA.alloc (.cells #[.int .i64 r.k, .int .i64 r.s, .int .i64 r.a, .int .i64 r.v] 25)) := (Below.refl _ _).alloc (Nat.le_refl _) _
  have cW := CsAt.new wA [.int .i64 r.k, .int .i64 r.s, .int .i64 r.a, .int .i64 r.v] 25
  replace hf := FsAt.below hf b
  replace B := B.trans (b.mono B.size)
  clear b
  go_wp2_with fail
  generalize wA.alloc (.cells #[.int .i64 r.k, .int .i64 r.s, .int .i64 r.a, .int .i64 r.v] 25) = wB at *
  generalize wA.heap.size = wb at *
  refine (unhide HIL _ hf r o9 (unhide HR) (unhide HO)).mono ?_
  rintro e wC ⟨rfl, b⟩
  replace hf := FsAt.below hf b
  replace cW := CsAt.below cW b (CsAt.lt cW (by simp))
  replace B := B.trans (b.mono B.size)
  clear b
  have b : Below wC.heap.size wC (wC.alloc (.cells #[.int .i64 r.k, .int .i64 r.s, .int .i64 r.a, .int .i64 r.v] 25)) := (Below.refl _ _).alloc (Nat.le_refl _) _
  have cR := CsAt.new wC [.int .i64 r.k, .int .i64 r.s, .int .i64 r.a, .int .i64 r.v] 25
  replace hf := FsAt.below hf b
  replace cW := CsAt.below cW b (CsAt.lt cW (by simp))
  replace B := B.trans (b.mono B.size)
  clear b
  have w0 := CsAt.cell cW 0 _ rfl
  have w1 := CsAt.cell cW 1 _ rfl
  have w2 := CsAt.cell cW 2 _ rfl
  have w3 := CsAt.cell cW 3 _ rfl
  have r0 := CsAt.cell cR 0 _ rfl
  have r1 := CsAt.cell cR 1 _ rfl
  have r2 := CsAt.cell cR 2 _ rfl
  have r3 := CsAt.cell cR 3 _ rfl
  go_wp2_with fail
  generalize wC.alloc (.cells #[.int .i64 r.k, .int .i64 r.s, .int .i64 r.a, .int .i64 r.v] 25) = wD at *
  generalize wC.heap.size = rb at *
  refine (unhide HOK _ hf).mono ?_
  rintro e wE ⟨rfl, b⟩
  clear w0 w1 w2 w3
  clear r0 r1 r2 r3
  replace hf := FsAt.below hf b
  replace cW := CsAt.below cW b (CsAt.lt cW (by simp))
  replace cR := CsAt.below cR b (CsAt.lt cR (by simp))
  replace B := B.trans (b.mono B.size)
  clear b
  cases hok : okB bs
  · have w0 := CsAt.cell cW 0 _ rfl
    have w1 := CsAt.cell cW 1 _ rfl
    have w2 := CsAt.cell cW 2 _ rfl
    have w3 := CsAt.cell cW 3 _ rfl
    have r0 := CsAt.cell cR 0 _ rfl
    have r1 := CsAt.cell cR 1 _ rfl
    have r2 := CsAt.cell cR 2 _ rfl
    have r3 := CsAt.cell cR 3 _ rfl
    go_wp2
    go_ret
    exact ⟨rfl, B⟩
  by_cases ha6 : 6 < ad
  · have w0 := CsAt.cell cW 0 _ rfl
    have w1 := CsAt.cell cW 1 _ rfl
    have w2 := CsAt.cell cW 2 _ rfl
    have w3 := CsAt.cell cW 3 _ rfl
    have r0 := CsAt.cell cR 0 _ rfl
    have r1 := CsAt.cell cR 1 _ rfl
    have r2 := CsAt.cell cR 2 _ rfl
    have r3 := CsAt.cell cR 3 _ rfl
    go_wp2
    go_ret
    exact ⟨rfl, B⟩
  have HL := hide (ok_len hok)
  have HAN : Hid (o9 = true ↔ ∃ b ∈ bs, ∃ p ∈ b.ps, ofA ad p) := by show _ ↔ _; rw [← unhide HO]; exact last_any hok
  have HIS : Hid (o9 = true → (∃ b ∈ bs, ∃ p ∈ b.ps, isRec r.k r.s r.a r.v p) ∧ r.a = ad) := fun h => by rw [← unhide HR]; exact last_is hok (by rw [unhide HO]; exact h)
  have HMX : Hid (∀ b ∈ bs, ∀ p ∈ b.ps, p.st = 1 → p.a = ad → p.s ≤ r.s) := by
    show ∀ b ∈ bs, _
    rw [← unhide HR, flR_ok hok]
    exact (last_spec bs ad).1
  have HSZ := hide (fun (p : Pg) => (show (Try.prog.info? 33).map (·.size) = some (pgC p).length by rw [len_pgC]; kernel_rfl))
  have w0 := CsAt.cell cW 0 _ rfl
  have w1 := CsAt.cell cW 1 _ rfl
  have w2 := CsAt.cell cW 2 _ rfl
  have w3 := CsAt.cell cW 3 _ rfl
  have r0 := CsAt.cell cR 0 _ rfl
  have r1 := CsAt.cell cR 1 _ rfl
  have r2 := CsAt.cell cR 2 _ rfl
  have r3 := CsAt.cell cR 3 _ rfl
  go_wp2
  clear w0 w1 w2 w3
  clear r0 r1 r2 r3
  clear cW
  have HB := hide B
  have HF := hide hf
  have HCR := hide cR
  clear B hf cR
  go_loopw [9, 10] (fun t i w' => ∃ (k : Nat) (t' : Bool), k ≤ bs.length ∧ i = .int .i64 k ∧ t = .bool t' ∧ Hid (t' = true ↔ ∃ b ∈ bs.take k, ∃ p ∈ b.ps, ofA ad p) ∧ FsAt w' fa bs ∧ CsAt w' rb [.int .i64 r.k, .int .i64 r.s, .int .i64 r.a, .int .i64 r.v] ∧ Below w.heap.size w w') (fun _ i _ => bs.length - (intOf i).toNat)
  case atStart => exact ⟨0, false, by omega, rfl, rfl, ⟨fun h => by simp at h, fun ⟨b, hb, _⟩ => by simp at hb⟩, unhide HF, unhide HCR, unhide HB⟩
  case round =>
    obtain ⟨k, t, hk, rfl, rfl, ht, hf, cR, B⟩ := hrel
    clear HB HF HCR
    by_cases h0 : k = bs.length
    · have htt : t = o9 := by
        have := ht.out
        rw [h0, List.take_of_length_le (Nat.le_refl _)] at this
        rw [Bool.eq_iff_iff, this, unhide HAN]
      subst htt
      subst h0
      clear ht
      cases t
      · go_wp2
        go_ret
        exact ⟨rfl, B⟩
      · obtain ⟨hex, hra⟩ := unhide HIS rfl
        have hrb : (r.a == ad) = true := by simpa using hra
        have HLH := hide (lqHas_yes fa c bs r.k r.s r.a r.v _ hf hok hex)
        clear hex hra
        have r0 := CsAt.cell cR 0 _ rfl
        have r1 := CsAt.cell cR 1 _ rfl
        have r2 := CsAt.cell cR 2 _ rfl
        have r3 := CsAt.cell cR 3 _ rfl
        go_wp2_with fail
        refine (unhide HLH).mono ?_
        rintro e wN ⟨rfl, b⟩
        clear r0 r1 r2 r3
        replace cR := CsAt.below cR b (CsAt.lt cR (by simp))
        replace B := B.trans (b.mono B.size)
        have r0 := CsAt.cell cR 0 _ rfl
        have r1 := CsAt.cell cR 1 _ rfl
        have r2 := CsAt.cell cR 2 _ rfl
        have r3 := CsAt.cell cR 3 _ rfl
        go_wp2
        go_ret
        exact ⟨rfl, B⟩
    have hlt : (k : Int) < (bs.length : Int) := by omega
    have hkb : k < bs.length := by omega
    have hlo : (0 : Int) ≤ (k : Int) := by omega
    have hk4' : k < 4 := by have := unhide HL; omega
    have HB4 := hide (show bs[k].ps.length = 4 from (ok_fours hok).at k hkb)
    have HTK := hide (List.take_succ_eq_append_getElem hkb)
    have HT := hide ht.out
    have HMK : Hid (∀ p ∈ bs[k].ps, p.st = 1 → p.a = ad → p.s ≤ r.s) := fun p hp => unhide HMX _ (List.getElem_mem hkb) p hp
    have HB := hide B
    have HF := hide hf
    have HCR := hide cR
    clear B hf cR ht
    go_wp2
    go_loopw [9, 11] (fun t i w' => ∃ (j : Nat) (t' : Bool), j ≤ 4 ∧ i = .int .i64 j ∧ t = .bool t' ∧ Hid (t' = true ↔ ((∃ b ∈ bs.take k, ∃ p ∈ b.ps, ofA ad p) ∨ ∃ p ∈ bs[k].ps.take j, ofA ad p)) ∧ FsAt w' fa bs ∧ CsAt w' rb [.int .i64 r.k, .int .i64 r.s, .int .i64 r.a, .int .i64 r.v] ∧ Below w.heap.size w w') (fun _ i _ => 4 - (intOf i).toNat)
    case atStart => exact ⟨0, t, by omega, rfl, rfl, (unhide HT).trans ⟨.inl, fun h => h.elim id fun ⟨p, hp, _⟩ => by simp at hp⟩, unhide HF, unhide HCR, unhide HB⟩
    case round =>
      obtain ⟨j, u, hj, rfl, rfl, hu, hf, cR, B⟩ := hrel
      clear HB HF HCR
      by_cases hj4 : j = 4
      · have HU := hide hu.out
        rw [show (j : Int) = 4 by omega]
        rw [hj4] at HU
        clear hu hj hj4
        go_wp2
        go_roundw
        case rel =>
          refine ⟨k + 1, u, by omega, by first | rfl | go_num, rfl, ?_, hf, cR, B⟩
          show u = true ↔ _
          rw [unhide HU, unhide HTK, List.take_of_length_le (l := bs[k].ps) (by have := unhide HB4; omega)]
          constructor
          · rintro (⟨b, hb, h⟩ | h)
            · exact ⟨b, List.mem_append.2 (.inl hb), h⟩
            · exact ⟨bs[k], List.mem_append.2 (.inr (List.mem_singleton.2 rfl)), h⟩
          · rintro ⟨b, hb, h⟩
            rcases List.mem_append.1 hb with hb | hb
            · exact .inl ⟨b, hb, h⟩
            · rw [List.mem_singleton.1 hb] at h; exact .inr h
        case measure => simp [intOf]; omega
      have hji : (j : Int) < 4 := by omega
      have hj0 : (0 : Int) ≤ (j : Int) := by omega
      have hjb : j < bs[k].ps.length := by have := unhide HB4; omega
      obtain ⟨fb, fo, pb, po, pc, e, c0, -, hr⟩ := ok_at hf hok k hk4'
      subst e
      have hrj := range_pg hr j hjb
      have HNX := hide (fun (t' : Bool) (hn : (t' = true ↔ (u = true ∨ ofA ad bs[k].ps[j]))) => any_next (q := ofA ad) hjb hu.out hn)
      have HMP := hide (unhide HMK bs[k].ps[j] (List.getElem_mem hjb))
      clear hr hu
      generalize bs[k].ps[j] = p at *
      have bP : Below wr.heap.size wr (wr.alloc (.cells #[.int .i64 p.st, .int .i64 p.k, .int .i64 p.s, .int .i64 p.a, .int .i64 p.v] 33)) := (Below.refl _ _).alloc (Nat.le_refl _) _
      have cP := CsAt.new wr [.int .i64 p.st, .int .i64 p.k, .int .i64 p.s, .int .i64 p.a, .int .i64 p.v] 33
      have hf2 := FsAt.below hf bP
      have cR2 := CsAt.below cR bP (CsAt.lt cR (by simp))
      have B2 := B.trans (bP.mono B.size)
      have p0 := CsAt.cell cP 0 _ rfl
      have p2 := CsAt.cell cP 2 _ rfl
      have p3 := CsAt.cell cP 3 _ rfl
      have r1 := CsAt.cell cR2 1 _ rfl
      have HF2 := hide hf2
      have HCR2 := hide cR2
      have HB2 := hide B2
      clear hf cR B hf2 cR2 B2 bP cP
      by_cases hst : p.st = 1
      · have hs1 : (p.st == 1) = true := by simpa using hst
        by_cases had : p.a = ad
        · have hs2 : (p.a == ad) = true := by simpa using had
          have hle := unhide HMP hst had
          have hgt : ¬ r.s < p.s := by omega
          have HW := hide (unhide HNX true ⟨fun _ => .inr ⟨hst, had⟩, fun _ => rfl⟩)
          clear hst had
          go_wp2_with (refine wpList_load_mid rfl 33 _ rfl pb (po + j * 5) rfl [.int .i64 p.st, .int .i64 p.k, .int .i64 p.s, .int .i64 p.a, .int .i64 p.v] _ hrj Try.underlying33 rfl (unhide HSZ p) ?_)
          go_roundw
          case rel => exact ⟨j + 1, true, by omega, by first | rfl | go_num, rfl, unhide HW, unhide HF2, unhide HCR2, unhide HB2⟩
          case measure => simp [intOf]; omega
        · have hs2 : (p.a == ad) = false := by simpa using had
          have HW := hide (unhide HNX u ⟨.inl, fun h => h.elim id fun h => absurd h.2 had⟩)
          clear hst had
          go_wp2_with (refine wpList_load_mid rfl 33 _ rfl pb (po + j * 5) rfl [.int .i64 p.st, .int .i64 p.k, .int .i64 p.s, .int .i64 p.a, .int .i64 p.v] _ hrj Try.underlying33 rfl (unhide HSZ p) ?_)
          go_roundw
          case rel => exact ⟨j + 1, u, by omega, by first | rfl | go_num, rfl, unhide HW, unhide HF2, unhide HCR2, unhide HB2⟩
          case measure => simp [intOf]; omega
      · have hs1 : (p.st == 1) = false := by simpa using hst
        have HW := hide (unhide HNX u ⟨.inl, fun h => h.elim id fun h => absurd h.1 hst⟩)
        clear hst
        go_wp2_with (refine wpList_load_mid rfl 33 _ rfl pb (po + j * 5) rfl [.int .i64 p.st, .int .i64 p.k, .int .i64 p.s, .int .i64 p.a, .int .i64 p.v] _ hrj Try.underlying33 rfl (unhide HSZ p) ?_)
        go_roundw
        case rel => exact ⟨j + 1, u, by omega, by first | rfl | go_num, rfl, unhide HW, unhide HF2, unhide HCR2, unhide HB2⟩
        case measure => simp [intOf]; omega


set_option maxRecDepth 100000 in
theorem lifted (os : Os) (started : os.Started) (H : Type) (enc : TypeId × Value → H) :
    ReturnsInHanded {} Try.checked os 12 .any (Rows.fnLastSpec.pre6 enc Try.prog Try.f12 Rows.fnLastRow.domain false) (Rows.fnLastSpec.post enc Try.prog Try.f12 false true false false) := by
  refine returnsInHanded_of_change (C := Try.checked) own started (by kernel_rfl) Try.func12
    (ChangeSpec.witness6 (enc := enc) (C := Try.checked) false ⟨#[], #[.slice none 0 0], []⟩ 8 (by kernel_rfl) (by kernel_rfl) (by kernel_rfl) (by kernel_rfl)) ?_
  intro W base args ds gs before hval0 hW hcnd _
  have hval : ∀ (j : Nat) t v, Try.f12.params[j]? = some t → args[j]? = some v → Value.okWide Try.prog W .any base t v := hval0
  have hW' := hW
  obtain ⟨p, q, hA0, hV, rfl, hfz, hnd⟩ := hW
  have hA : DataW.TrodAll enc Try.prog W 0 (fun _ => true) true Try.f12.params.toList args.toList ds p := hA0
  rw [Try.params12] at hA hval
  obtain ⟨v0, vs0, d0, ds0, p0, q0, hargs, rfl, rfl, h0, r0⟩ := trodAll_cons hA
  obtain ⟨rfl, rfl, rfl⟩ := trodAll_nil r0
  obtain rfl : args = #[v0] := by cases args; simp_all
  obtain ⟨rfl, rfl⟩ := trodVars_none hV
  have kk0 := h0
  have lt0 : ∀ x ∈ p0, x.block < W.heap.size := by obtain ⟨m, hm⟩ := kk0; exact DataW.trod_lt m _ _ _ hm
  obtain ⟨a0, len0, cap0, rfl⟩ := okWide_slice Try.underlying22 (hval 0 22 v0 rfl rfl)
  obtain ⟨z0, w0⟩ : ∃ zs, IsRow .u8 W a0 len0 cap0 zs := by
    obtain ⟨fuel, hf⟩ := h0
    rcases open_ints Try.underlying22 Try.underlying5 (by kernel_rfl) hf with ⟨hcs, _⟩ | ⟨x, l, c, zs, hcs, _, hl, hm, hz, _, hcell, hwz⟩
    · simp [Value.cells] at hcs
      obtain ⟨rfl, rfl, rfl⟩ := hcs
      exact ⟨[], .inl ⟨rfl, rfl, rfl, rfl⟩⟩
    · simp [Value.cells] at hcs
      obtain ⟨rfl, rfl, rfl⟩ := hcs
      exact ⟨zs, .inr ⟨_, rfl, hl, hm, by simpa using hz, hcell, hwz⟩⟩
  clear hA0
  refine (walk a0 len0 cap0 z0 W w0).mono fun e W' ⟨he, bel⟩ => ?_
  subst he
  exact ⟨_, rfl, _, _, _, [], _, [], hW', trodAll_mk1 (shut_bool Try.underlying4 _), (trodAll_cons_mk (Below.trod laidOut (by kernel_rfl) (of_decide_eq_true (by kernel_rfl)) kk0 bel lt0) trodAll_mk0), rfl, bel.frame _, fun h => by cases h⟩

set_option maxRecDepth 100000 in
theorem facts : joinedFacts Try.prog 12 Try.f12 Rows.fnLastSpec Rows.fnLastRow = true := by
  unfold joinedFacts
  refine Facts.and_t ?_ (by as_aux_lemma => kernel_rfl)
  refine Facts.and_t ?_ (by as_aux_lemma => kernel_rfl)
  refine Facts.and_t ?_ (by as_aux_lemma => kernel_rfl)
  refine Facts.and_t ?_ (by as_aux_lemma => kernel_rfl)
  refine Facts.and_t ?_ (by show (Try.prog.make == some Make.cut) = true; rw [Facts.made]; rfl)
  refine Facts.and_t ?_ (by show (false == Try.prog.liftsFinal) = true; rw [Facts.lifts]; rfl)
  refine Facts.and_t ?_ (Facts.enters)
  refine Facts.and_t ?_ (Facts.heard)
  refine Facts.and_t ?_ (rfl)
  refine Facts.and_t ?_ (by show (true == Try.prog.plainKeys) = true; rw [Facts.keys]; rfl)
  refine Facts.and_t ?_ (by as_aux_lemma => kernel_rfl)
  refine Facts.and_t ?_ (by as_aux_lemma => kernel_rfl)
  refine Facts.and_t ?_ (by as_aux_lemma => kernel_rfl)
  refine Facts.and_t ?_ (by as_aux_lemma => kernel_rfl)
  refine Facts.and_t ?_ (by as_aux_lemma => kernel_rfl)
  refine Facts.and_t ?_ (by as_aux_lemma => kernel_rfl)
  refine Facts.and_t ?_ (by as_aux_lemma => kernel_rfl)
  refine Facts.and_t ?_ (by as_aux_lemma => kernel_rfl)
  refine Facts.and_t ?_ (by as_aux_lemma => kernel_rfl)
  refine Facts.and_t ?_ (by as_aux_lemma => kernel_rfl)
  refine Facts.and_t ?_ (by as_aux_lemma => kernel_rfl)
  refine Facts.and_t ?_ (by as_aux_lemma => kernel_rfl)
  refine Facts.and_t ?_ (by as_aux_lemma => kernel_rfl)
  refine Facts.and_t ?_ (by as_aux_lemma => kernel_rfl)
  refine Facts.and_t ?_ (by as_aux_lemma => kernel_rfl)
  refine Facts.and_t ?_ (by as_aux_lemma => kernel_rfl)
  refine Facts.and_t ?_ (by as_aux_lemma => kernel_rfl)
  refine Facts.and_t ?_ (by as_aux_lemma => kernel_rfl)
  refine Facts.and_t ?_ (by as_aux_lemma => kernel_rfl)
  refine Facts.and_t ?_ (Facts.rowed)
  refine Facts.and_t ?_ (Facts.laidOut)
  kernel_rfl

theorem over : Rows.fnLastRow.holds Try.pinned (OpenSpec.ofChange Rows.fnLastSpec) :=
  OpenClaim.holds_of_wide 12 Try.f12 rfl rfl rfl rfl rfl rfl rfl ⟨rfl, rfl, rfl, rfl, rfl⟩ rfl rfl rfl rfl rfl (by kernel_rfl) Try.func12 facts
    (of_decide_eq_true (by kernel_rfl)) (by unfold Func.isWrapper; first | (rw [if_pos (by decide +kernel)]; kernel_rfl) | (rw [if_neg (by decide +kernel)]; exact ⟨rfl, rfl⟩))
    (fun os started H enc _ => lifted os started H enc)

end Go.Proofs.Ytogioeflbbmppaa.Last
namespace Go.Proofs.Ytogioeflbbmppaa
theorem fnLast_holds : Rows.FnLastSaid := Last.over
end Go.Proofs.Ytogioeflbbmppaa
