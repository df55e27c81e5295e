/-
  The program's FlashNew answers as the specification's; its answer owns its memory, behind another call too: the given statement, with no condition.
-/
import Derived.Test.YtmbeloipeckcaaaOpenF
import Derived.Test.YtmbeloipeckcaaaSpecN
import Derived.Test.YtmbeloipeckcaaaMark
namespace Go.Proofs.Ytmbeloipeckcaaa.ExactFlashNew
open Go.ChangeShapes Go.WideShapes Go.ChangeAt Go.RowKit Go.Joins OkA Big Fl ImplB ImplF ImplS Own ImplT ImplU SpecA SpecB SpecC SpecD SpecN MarkB LawsA LawsB LawsE OpenF
set_option linter.unusedVariables false

theorem own : ownKnob Try.prog.godebug = none := by kernel_rfl
theorem laidOut : laidOutB Try.prog = true := by kernel_rfl

theorem eq4 (x y cx cy : Nat) (bs : List Bk) (w : World) (h4 : bs.length = 4) (hF : Fours bs) (h1 : FsAt w (some ⟨x, 0, none⟩) bs) (h2 : FsAt w (some ⟨y, 0, none⟩) bs) :
    Calls Try.prog 36 #[.slice (some ⟨x, 0, none⟩) 4 cx, .slice (some ⟨y, 0, none⟩) 4 cy] w fun e w' => e = .returned (.bool true) ∧ Below w.heap.size w w' := by
  have := eqBlockS_any _ _ cx cy bs w h1 h2 (by omega) (fun b hb => by rw [hF b hb]; omega)
  rwa [h4] at this
theorem mark4 (lo g cap N : Nat) (G : List Nat) (bs : List Bk) (w : World) (o : Own w lo g G bs N) (hF : Fours bs) (h4 : bs.length = 4) :
    Calls Try.prog 37 #[.slice (some ⟨g, 0, none⟩) 4 cap, .int .i64 1] w fun e w' => e = .returned (.int .i64 85) ∧ Own w' lo g G (mkBs 4 1) N ∧ Below lo w w' ∧ w'.heap.size = w.heap.size := by
  have := markBlockS_any lo g cap N G bs 1 w o hF (by omega) (by omega) (by omega)
  rw [h4] at this
  exact this
theorem held4 (a : Option Addr) (cap : Nat) (w : World) (hf : FsAt w a (mkBs 4 1)) :
    Calls Try.prog 38 #[.slice a 4 cap, .int .i64 1] w fun e w' => e = .returned (.int .i64 85) ∧ w' = w := heldBlockS_any a cap 4 1 w (by omega) (by omega) (by omega) hf

set_option maxHeartbeats 1000000 in
theorem walk (w : World) :
    Calls Try.prog 13 #[] w fun e w' => e = .returned (.bool true) ∧ Below w.heap.size w w' := by
  have hz4 : zFs.length = 4 := rfl
  have hzF : Fours zFs := fours_z
  have HN := hide new_any
  have HI := hide flashNew_any
  generalize zFs = zs at *
  go_enter Try.func13, Try.ntmps13
  go_wp2_with fail
  refine (unhide HN _).mono ?_
  rintro e w1 ⟨g, G, c, rfl, o1, b1⟩
  go_wp2_with fail
  refine (unhide HI _).mono ?_
  rintro e w2 ⟨g2, G2, rfl, o2, b2⟩
  have s1 := b1.size
  have B2 := b1.trans (b2.mono s1)
  have p2 := o1.below b2 (Nat.le_refl _)
  have s2 := b2.size
  go_wp2_with fail
  refine (eq4 _ _ _ _ zs _ hz4 hzF o2.fs p2.fs).mono ?_
  rintro e w3 ⟨rfl, b3⟩
  have s3 := b3.size
  have o3 := o2.below b3 (Nat.le_refl _)
  have C3 := b2.trans (b3.mono s2)
  go_wp2_with fail
  refine (mark4 _ _ _ _ _ zs _ o3 hzF hz4).mono ?_
  rintro e w4 ⟨rfl, o4, b4, s4⟩
  have C4 := C3.trans b4
  clear o2 p2 o3 b3 B2 b2 C3
  go_wp2_with fail
  refine (held4 _ _ _ o4.fs).mono ?_
  rintro e w5 ⟨rfl, hw5⟩
  obtain rfl := hw5.symm
  go_wp2_with fail
  refine (unhide HI _).mono ?_
  rintro e w6 ⟨g6, G6, rfl, o6, b6⟩
  have s6 := b6.size
  have o7 := o4.below b6 (Nat.le_refl _)
  have C6 := C4.trans (b6.mono (by omega))
  have p6 := o1.below C6 (Nat.le_refl _)
  clear o4 b4 C4
  go_wp2_with fail
  refine (eq4 _ _ _ _ zs _ hz4 hzF o6.fs p6.fs).mono ?_
  rintro e w7 ⟨rfl, b7⟩
  have o8 := o7.below b7 (Nat.le_refl _)
  have C7 := C6.trans (b7.mono (by omega))
  have B7 := b1.trans (C7.mono s1)
  clear o6 p6 o7 b6 b7 C6 C7 o1 b1
  go_wp2_with fail
  refine (held4 _ _ _ o8.fs).mono ?_
  rintro e w8 ⟨rfl, hw8⟩
  obtain rfl := hw8.symm
  go_wp2
  go_ret
  exact ⟨rfl, B7⟩

set_option maxRecDepth 100000 in
theorem lifted (os : Os) (started : os.Started) (H : Type) (enc : TypeId × Value → H) :
    ReturnsInHanded {} Try.checked os 13 .any (Rows.fnExactFlashNewSpec.pre6 enc Try.prog Try.f13 Rows.fnExactFlashNewRow.domain false) (Rows.fnExactFlashNewSpec.post enc Try.prog Try.f13 false true false false) := by
  refine returnsInHanded_of_change (C := Try.checked) own started (by kernel_rfl) Try.func13
    (ChangeSpec.witness6 (enc := enc) (C := Try.checked) false ⟨#[], #[], []⟩ 8 (by kernel_rfl) (by kernel_rfl) (by kernel_rfl) (by kernel_rfl)) ?_
  intro W base args ds gs before hval0 hW hcnd _
  have hval : ∀ (j : Nat) t v, Try.f13.params[j]? = some t → args[j]? = some v → Value.okWide Try.prog W .any base t v := hval0
  have hW' := hW
  obtain ⟨p, q, hA0, hV, rfl, hfz, hnd⟩ := hW
  have hA : DataW.TrodAll enc Try.prog W 0 (fun _ => true) true Try.f13.params.toList args.toList ds p := hA0
  rw [Try.params13] at hA hval
  obtain ⟨hargs, rfl, rfl⟩ := trodAll_nil hA
  obtain rfl : args = #[] := by cases args; simp_all
  obtain ⟨rfl, rfl⟩ := trodVars_none hV
  clear hA0
  refine (walk  W ).mono fun e W' ⟨he, bel⟩ => ?_
  subst he
  exact ⟨_, rfl, _, _, _, [], _, [], hW', trodAll_mk1 (shut_bool Try.underlying4 _), trodAll_mk0, rfl, bel.frame _, fun h => by cases h⟩

theorem over : Rows.fnExactFlashNewRow.holds Try.pinned (OpenSpec.ofChange Rows.fnExactFlashNewSpec) :=
  OpenClaim.holds_of_wide 13 Try.f13 rfl rfl rfl rfl rfl rfl rfl ⟨rfl, rfl, rfl, rfl, rfl⟩ rfl rfl rfl rfl rfl (by kernel_rfl) Try.func13 (by kernel_rfl)
    (of_decide_eq_true (by kernel_rfl)) (by unfold Func.isWrapper; first | (rw [if_pos (by decide +kernel)]; kernel_rfl) | (rw [if_neg (by decide +kernel)]; exact ⟨rfl, rfl⟩))
    (fun os started H enc _ => lifted os started H enc)
end Go.Proofs.Ytmbeloipeckcaaa.ExactFlashNew
namespace Go.Proofs.Ytmbeloipeckcaaa
theorem fnExactFlashNew_holds : Rows.FnExactFlashNewSaid := ExactFlashNew.over
end Go.Proofs.Ytmbeloipeckcaaa
