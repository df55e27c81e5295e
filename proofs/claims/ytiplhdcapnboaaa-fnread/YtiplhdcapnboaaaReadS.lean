/-
  A value is that of the last record, or the slow disk's: so it is in a drawn store. The given statement, with no condition.
-/
import Derived.Test.YtiplhdcapnboaaaSvM
import Derived.Test.YtiplhdcapnboaaaPlE
import Derived.Test.YtiplhdcapnboaaaImplX
import Derived.Test.YtiplhdcapnboaaaLqI
import Derived.Test.YtiplhdcapnboaaaFacts
import Derived.Lib.SmallJoins
namespace Go.Proofs.Ytiplhdcapnboaaa.ReadS
open Go.ChangeShapes Go.WideShapes Go.ChangeAt Go.RowKit Go.Shelf Go.Joins OkA Big Fl ImplB ImplF ImplS ImplT ImplU SpecA SpecB SpecC SpecD SpecW SpecX SpecF SpecG SpecH FindP FindN FindO FindD ImplW ImplX Pick Draw ClA DrB PlB Pl FindL StA StB StC StD StE StF StG SpS SpT DrS Sv LqI 
open FlB (FsN)
open StN (SN)
open Facts (own laidOut)
set_option linter.unusedVariables false
set_option linter.unusedSimpArgs false
attribute [local go_sem ↓] Go.wp_at_zero Go.wp_at_succ

set_option maxRecDepth 100000 in
set_option maxHeartbeats 8000000 in
theorem walk (a0 : Option Addr) (len0 cap0 : Nat) (z0 : List Int) (w : World) (h0 : IsRow .u8 w a0 len0 cap0 z0) :
    Calls Try.prog 12 #[.slice a0 len0 cap0] w fun e w' => e = .returned (.bool true) ∧ Below w.heap.size w w' := by
  have HD := hide (drawSread_any w a0 len0 cap0 z0 h0)
  clear h0
  go_enter Try.func12, Try.ntmps12
  by_cases hbig0 : 1048576 < (len0 : Int)
  · go_wp2
    go_ret
    exact ⟨rfl, Below.refl _ _⟩
  go_wp2_with fail
  refine (unhide HD).mono ?_
  rintro e w1 ⟨g, o, c, bs, d, z, dc, dk, k, rfl, S1, hc4, k0, k1, B⟩
  have h4 := S1.fs.four
  have h6 := S1.six
  have hp4 := hide S1.fs.pgs
  have hs := S1.at
  clear HD S1
  generalize (some ⟨g, o, none⟩ : Option Addr) = fa at *
  generalize (some ⟨d, z, none⟩ : Option Addr) = da at *
  have bA : Below w1.heap.size w1 (w1.alloc (.cells #[.slice fa bs.length c, .slice da dk.length dc] 54)) := (Below.refl _ _).alloc (Nat.le_refl _) _
  have bx := Bx.new w1 (.slice fa bs.length c) (.slice da dk.length dc) 54
  replace hs := hs.below bA
  replace B := B.trans (bA.mono B.size)
  clear bA hc4
  have y0 := bx.c0
  have y1 := bx.c1
  have HIR := hide (fun (w' : World) (h : SAt w' fa bs da dk) => iRead k (fc := c) (dc := dc)  w' h h4 h6)
  have HSR := hide (fun (w' : World) (h : SAt w' fa bs da dk) => sRead k (fc := c) (dc := dc)  w' h h4 h6 (unhide hp4))
  have HSO := hide (fun (w' : World) (h : SAt w' fa bs da dk) => sOk (fc := c) (dc := dc)  w' h h4 h6 (unhide hp4))
  have HIL := hide (fun (r : Rc) (o : Bool) (hr : flR bs k = r) (ho : flO bs k = o) (w' : World) (h : SAt w' fa bs da dk) => iLast (fc := c) k r o hr ho w' h.fs h4)
  have HF := hide (fun (h : stB bs dk = true) (q1 : 1 ≤ k) (q6 : k ≤ 6) => rd_ok h q1 q6)
  have HDK := hide (fun (h : stB bs dk = true) => (st_parts h).2)
  generalize hv : rdS bs dk k = v at *
  clear hv
  have hvv : (v != v) = false := by simp
  have hve : (v == v) = true := by simp
  go_wp2_with fail
  generalize w1.alloc (.cells #[.slice fa bs.length c, .slice da dk.length dc] 54) = w2 at *
  generalize w1.heap.size = sb at *
  refine (unhide HIR _ hs).mono ?_
  rintro e u1 ⟨rfl, b⟩
  replace hs := hs.below b
  replace bx := bx.below b
  clear y0 y1
  have y0 := bx.c0
  have y1 := bx.c1
  replace B := B.trans (b.mono B.size)
  clear b
  go_wp2_with fail
  refine (unhide HSR _ hs).mono ?_
  rintro e u2 ⟨rfl, b⟩
  replace hs := hs.below b
  replace bx := bx.below b
  clear y0 y1
  have y0 := bx.c0
  have y1 := bx.c1
  replace B := B.trans (b.mono B.size)
  clear b
  go_wp2_with fail
  refine (unhide HSO _ hs).mono ?_
  rintro e u3 ⟨rfl, b⟩
  replace hs := hs.below b
  replace bx := bx.below b
  clear y0 y1
  have y0 := bx.c0
  have y1 := bx.c1
  replace B := B.trans (b.mono B.size)
  clear b
  cases hst : stB bs dk
  · go_wp2_with fail
    refine (unhide HSR _ hs).mono ?_
    rintro e u4 ⟨rfl, b⟩
    replace hs := hs.below b
    replace bx := bx.below b
    clear y0 y1
    have y0 := bx.c0
    have y1 := bx.c1
    replace B := B.trans (b.mono B.size)
    clear b
    go_wp2
    go_ret
    exact ⟨rfl, B⟩
  by_cases hk : k ≤ 6
  · have HV := hide (unhide HF hst k0 hk)
    obtain ⟨r, hr⟩ : ∃ r, flR bs k = r := ⟨_, rfl⟩
    obtain ⟨o9, ho⟩ : ∃ o, flO bs k = o := ⟨_, rfl⟩
    rw [hr, ho] at HV
    go_wp2_with fail
    refine (unhide HIL r o9 hr ho _ hs).mono ?_
    rintro e u5 ⟨rfl, b⟩
    replace hs := hs.below b
    replace bx := bx.below b
    clear y0 y1
    have y0 := bx.c0
    have y1 := bx.c1
    replace B := B.trans (b.mono B.size)
    clear b
    have b : Below u5.heap.size u5 (u5.alloc (.cells #[.int .i64 r.k, .int .i64 r.s, .int .i64 r.a, .int .i64 r.v] 25)) := (Below.refl _ _).alloc (Nat.le_refl _) _
    replace hs := hs.below b
    replace bx := bx.below b
    clear y0 y1
    have y0 := bx.c0
    have y1 := bx.c1
    replace B := B.trans (b.mono B.size)
    clear b

    clear hr ho
    cases o9
    · have hv : v = dk.getD (k - 1).toNat 0 := by have := unhide HV; simpa using this
      have hd6 := unhide HDK hst
      obtain ⟨q, rfl, hq⟩ : ∃ q : Nat, k = (q : Int) + 1 ∧ q < 6 := ⟨(k - 1).toNat, by omega, by omega⟩
      obtain ⟨db, do_, rfl, hd⟩ := hs.ds.lies (by omega)
      have hdq := hd q (by omega)
      rw [show ((q : Int) + 1 - 1).toNat = q by omega] at hv
      rw [← hv] at hdq
      have he1 : (q : Int) + 1 - 1 = q := by omega
      have hql : (q : Int) < dk.length := by omega
      have hq0 : (0 : Int) ≤ q := by omega
      clear hd hv hd6
      go_wp2
      go_ret
      exact ⟨rfl, B⟩
    · have hv : v = r.v := by have := unhide HV; simpa using this
      subst hv
      go_wp2
      go_ret
      exact ⟨rfl, B⟩
  · have hk7 : ¬ k ≤ 6 := hk
    go_wp2_with fail
    refine (unhide HSR _ hs).mono ?_
    rintro e u6 ⟨rfl, b⟩
    replace hs := hs.below b
    replace bx := bx.below b
    clear y0 y1
    have y0 := bx.c0
    have y1 := bx.c1
    replace B := B.trans (b.mono B.size)
    clear b
    go_wp2
    go_ret
    exact ⟨rfl, B⟩


set_option maxRecDepth 100000 in
theorem lifted (os : Os) (started : os.Started) (H : Type) (enc : TypeId × Value → H) :
    ReturnsInHanded {} Try.checked os 12 .any (Rows.fnReadSpec.pre6 enc Try.prog Try.f12 Rows.fnReadRow.domain false) (Rows.fnReadSpec.post enc Try.prog Try.f12 false true false false) := by
  refine returnsInHanded_of_change (C := Try.checked) own started (by kernel_rfl) Try.func12
    (ChangeSpec.witness6 (enc := enc) (C := Try.checked) false ⟨#[], #[.slice none 0 0], []⟩ 8 (by kernel_rfl) (by kernel_rfl) (by kernel_rfl) (by kernel_rfl)) ?_
  intro W base args ds gs before hval0 hW hcnd _
  have hval : ∀ (j : Nat) t v, Try.f12.params[j]? = some t → args[j]? = some v → Value.okWide Try.prog W .any base t v := hval0
  have hW' := hW
  obtain ⟨p, q, hA0, hV, rfl, hfz, hnd⟩ := hW
  have hA : DataW.TrodAll enc Try.prog W 0 (fun _ => true) true Try.f12.params.toList args.toList ds p := hA0
  rw [Try.params12] at hA hval
  obtain ⟨v0, vs0, d0, ds0, p0, q0, hargs, rfl, rfl, h0, r0⟩ := trodAll_cons hA
  obtain ⟨rfl, rfl, rfl⟩ := trodAll_nil r0
  obtain rfl : args = #[v0] := by cases args; simp_all
  obtain ⟨rfl, rfl⟩ := trodVars_none hV
  have kk0 := h0
  have lt0 : ∀ x ∈ p0, x.block < W.heap.size := by obtain ⟨m, hm⟩ := kk0; exact DataW.trod_lt m _ _ _ hm
  obtain ⟨a0, len0, cap0, rfl⟩ := okWide_slice Try.underlying22 (hval 0 22 v0 rfl rfl)
  obtain ⟨z0, w0⟩ : ∃ zs, IsRow .u8 W a0 len0 cap0 zs := by
    obtain ⟨fuel, hf⟩ := h0
    rcases open_ints Try.underlying22 Try.underlying5 (by kernel_rfl) hf with ⟨hcs, _⟩ | ⟨x, l, c, zs, hcs, _, hl, hm, hz, _, hcell, hwz⟩
    · simp [Value.cells] at hcs
      obtain ⟨rfl, rfl, rfl⟩ := hcs
      exact ⟨[], .inl ⟨rfl, rfl, rfl, rfl⟩⟩
    · simp [Value.cells] at hcs
      obtain ⟨rfl, rfl, rfl⟩ := hcs
      exact ⟨zs, .inr ⟨_, rfl, hl, hm, by simpa using hz, hcell, hwz⟩⟩
  clear hA0
  refine (walk a0 len0 cap0 z0 W w0).mono fun e W' ⟨he, bel⟩ => ?_
  subst he
  exact ⟨_, rfl, _, _, _, [], _, [], hW', trodAll_mk1 (shut_bool Try.underlying4 _), (trodAll_cons_mk (Below.trod laidOut (by kernel_rfl) (of_decide_eq_true (by kernel_rfl)) kk0 bel lt0) trodAll_mk0), rfl, bel.frame _, fun h => by cases h⟩

set_option maxRecDepth 100000 in
theorem facts : joinedFacts Try.prog 12 Try.f12 Rows.fnReadSpec Rows.fnReadRow = true := by
  unfold joinedFacts
  refine Facts.and_t ?_ (by as_aux_lemma => kernel_rfl)
  refine Facts.and_t ?_ (by as_aux_lemma => kernel_rfl)
  refine Facts.and_t ?_ (by as_aux_lemma => kernel_rfl)
  refine Facts.and_t ?_ (by as_aux_lemma => kernel_rfl)
  refine Facts.and_t ?_ (by show (Try.prog.make == some Make.cut) = true; rw [Facts.made]; rfl)
  refine Facts.and_t ?_ (by show (false == Try.prog.liftsFinal) = true; rw [Facts.lifts]; rfl)
  refine Facts.and_t ?_ (Facts.enters)
  refine Facts.and_t ?_ (Facts.heard)
  refine Facts.and_t ?_ (rfl)
  refine Facts.and_t ?_ (by show (true == Try.prog.plainKeys) = true; rw [Facts.keys]; rfl)
  refine Facts.and_t ?_ (by as_aux_lemma => kernel_rfl)
  refine Facts.and_t ?_ (by as_aux_lemma => kernel_rfl)
  refine Facts.and_t ?_ (by as_aux_lemma => kernel_rfl)
  refine Facts.and_t ?_ (by as_aux_lemma => kernel_rfl)
  refine Facts.and_t ?_ (by as_aux_lemma => kernel_rfl)
  refine Facts.and_t ?_ (by as_aux_lemma => kernel_rfl)
  refine Facts.and_t ?_ (by as_aux_lemma => kernel_rfl)
  refine Facts.and_t ?_ (by as_aux_lemma => kernel_rfl)
  refine Facts.and_t ?_ (by as_aux_lemma => kernel_rfl)
  refine Facts.and_t ?_ (by as_aux_lemma => kernel_rfl)
  refine Facts.and_t ?_ (by as_aux_lemma => kernel_rfl)
  refine Facts.and_t ?_ (by as_aux_lemma => kernel_rfl)
  refine Facts.and_t ?_ (by as_aux_lemma => kernel_rfl)
  refine Facts.and_t ?_ (by as_aux_lemma => kernel_rfl)
  refine Facts.and_t ?_ (by as_aux_lemma => kernel_rfl)
  refine Facts.and_t ?_ (by as_aux_lemma => kernel_rfl)
  refine Facts.and_t ?_ (by as_aux_lemma => kernel_rfl)
  refine Facts.and_t ?_ (by as_aux_lemma => kernel_rfl)
  refine Facts.and_t ?_ (by as_aux_lemma => kernel_rfl)
  refine Facts.and_t ?_ (Facts.rowed)
  refine Facts.and_t ?_ (Facts.laidOut)
  kernel_rfl

theorem over : Rows.fnReadRow.holds Try.pinned (OpenSpec.ofChange Rows.fnReadSpec) :=
  OpenClaim.holds_of_wide 12 Try.f12 rfl rfl rfl rfl rfl rfl rfl ⟨rfl, rfl, rfl, rfl, rfl⟩ rfl rfl rfl rfl rfl (by kernel_rfl) Try.func12 facts
    (of_decide_eq_true (by kernel_rfl)) (by unfold Func.isWrapper; first | (rw [if_pos (by decide +kernel)]; kernel_rfl) | (rw [if_neg (by decide +kernel)]; exact ⟨rfl, rfl⟩))
    (fun os started H enc _ => lifted os started H enc)

end Go.Proofs.Ytiplhdcapnboaaa.ReadS
namespace Go.Proofs.Ytiplhdcapnboaaa
theorem fnRead_holds : Rows.FnReadSaid := ReadS.over
end Go.Proofs.Ytiplhdcapnboaaa
