/-
  The specification's steps by which something happens.
-/
import Derived.Test.YtogfelpdgeionaaGreatPaA
namespace Go.Proofs.YtogfelpdgeionaaGreat.PaC
open Go.ChangeShapes Go.WideShapes Go.ChangeAt Go.RowKit Go.Shelf OkA Big Fl ImplB ImplF ImplS _root_.Go.Proofs.YtogfelpdgeionaaGreat.Own ImplT ImplU SpecA SpecB SpecC SpecD SpecW Ok2 Pl ImplL Kp StA StB StC StD StF StG SpS SpT RmA WrA FlA SpU TwC LawX PaA
set_option linter.unusedVariables false
set_option linter.unusedSimpArgs false
attribute [local go_sem ↓] Go.wp_at_zero Go.wp_at_succ

set_option maxRecDepth 100000 in
set_option maxHeartbeats 2000000 in
theorem l21Steps_any (k a b c : Int) (t : Bool) (fa : Option Addr) (fc : Nat) (bs : List Bk) (da : Option Addr) (dc : Nat) (dk : List Int) (w : World) (h : SAt w fa bs da dk) (hs : stB bs dk = true) :
    Calls Tryz.prog 126 #[.agg #[.slice fa bs.length fc, .slice da dk.length dc], .agg #[.int .i64 k, .int .i64 a, .int .i64 b, .int .i64 c, .bool t]] w fun e w' => StpPost w (evS bs dk ⟨k, a, b, c, t⟩) e w' := by
  obtain ⟨hok, h6⟩ := st_parts hs
  have h4 := ok_len hok
  rw [h4, h6]
  have B0 : Below w.heap.size w ((w.alloc (.cells #[.slice fa 4 fc, .slice da 6 dc] 26)).alloc (.cells #[.int .i64 k, .int .i64 a, .int .i64 b, .int .i64 c, .bool t] 62)) := ((Below.refl _ _).alloc (Nat.le_refl _) _).alloc (by simp) _
  have HE : Hid (evS bs dk ⟨k, a, b, c, t⟩ = evP bs dk ⟨k, a, b, c, t⟩) := by show _ = _; unfold evS; rw [hs]; rfl
  have cS := (store_box w (.slice fa 4 fc) (.slice da 6 dc)).alloc (by simp) (.cells #[.int .i64 k, .int .i64 a, .int .i64 b, .int .i64 c, .bool t] 62)
  have cE := CsAt.new (w.alloc (.cells #[.slice fa 4 fc, .slice da 6 dc] 26)) [.int .i64 k, .int .i64 a, .int .i64 b, .int .i64 c, .bool t] 62
  rw [World.size_alloc] at cE
  have HA1 := hide (h.below B0)
  obtain ⟨fb, fo, rfl, hf1⟩ := fs_some (unhide HA1).fs h4
  obtain ⟨db, dof, rfl, hd1⟩ := dk_some (unhide HA1).ds h6
  have x0 := cS.cell 0 _ rfl
  have x1 := cS.cell 1 _ rfl
  have e0 := cE.cell 0 _ rfl
  have e1 := cE.cell 1 _ rfl
  have e2 := cE.cell 2 _ rfl
  have HW := hide (fun kind addr val => write_steps fb fo fc (.slice (some ⟨db, dof, none⟩) 6 dc) kind addr val bs _ hok hf1)
  have HF := hide (fun addr => flush_steps fb fo fc db dof dc dk h6 addr bs _ hok hf1 hd1)
  have HI := hide (fun addr => fill_steps fb fo fc db dof dc dk h6 addr bs _ hok hf1 hd1)
  clear hf1 hd1 HA1 h cS cE
  clear h4 h6
  generalize hR : evS bs dk ⟨k, a, b, c, t⟩ = R at *
  clear hR
  go_enter Tryz.func126, Tryz.ntmps126
  by_cases hk1 : k = 1
  · have HR : Hid (R = writeP bs 1 a b) := by show _ = _; rw [unhide HE]; unfold evP; simp only [if_pos hk1]
    subst hk1
    go_wp2_with fail
    refine (unhide HW 1 a b).mono ?_
    rintro e w1 ⟨v, rfl, hS, b1⟩
    have B1 := B0.trans (b1.mono B0.size)
    have hS1 := hS.mono B0.size
    clear x0 x1 e0 e1 e2 HW HF HI hS
    go_wp2
    go_ret
    exact ⟨v, rfl, by rw [unhide HR]; exact hS1, B1⟩
  by_cases hk2 : k = 2
  · have HR : Hid (R = flushP bs dk a) := by show _ = _; rw [unhide HE]; unfold evP; simp only [if_neg hk1, if_pos hk2]
    subst hk2
    go_wp2_with fail
    refine (unhide HF a).mono ?_
    rintro e w1 ⟨v, rfl, hS, b1⟩
    have B1 := B0.trans (b1.mono B0.size)
    have hS1 := hS.mono B0.size
    clear x0 x1 e0 e1 e2 HW HF HI hS
    go_wp2
    go_ret
    exact ⟨v, rfl, by rw [unhide HR]; exact hS1, B1⟩
  by_cases hk3 : k = 3
  · have HR : Hid (R = fillP bs dk a) := by show _ = _; rw [unhide HE]; unfold evP; simp only [if_neg hk1, if_neg hk2, if_pos hk3]
    subst hk3
    go_wp2_with fail
    refine (unhide HI a).mono ?_
    rintro e w1 ⟨v, rfl, hS, b1⟩
    have B1 := B0.trans (b1.mono B0.size)
    have hS1 := hS.mono B0.size
    clear x0 x1 e0 e1 e2 HW HF HI hS
    go_wp2
    go_ret
    exact ⟨v, rfl, by rw [unhide HR]; exact hS1, B1⟩
  have HR : Hid (R = []) := by show _ = _; rw [unhide HE]; unfold evP; simp only [if_neg hk1, if_neg hk2, if_neg hk3]
  have nl := Sts.nil _ w.heap.size B0.size
  have nB := B0.alloc B0.size (.cells #[] 50)
  clear HW HF HI
  go_wp2
  go_ret
  exact ⟨_, rfl, by rw [unhide HR]; simpa using nl, nB⟩

set_option maxRecDepth 100000 in
set_option maxHeartbeats 2000000 in
theorem specPlaySteps_any (k a b c : Int) (t : Bool) (fa : Option Addr) (fc : Nat) (bs : List Bk) (da : Option Addr) (dc : Nat) (dk : List Int) (w : World) (h : SAt w fa bs da dk) (hm : bs.length ≤ 1048576) (hp : ∀ b ∈ bs, b.ps.length ≤ 1048576) (hm2 : dk.length ≤ 1048576) :
    Calls Tryz.prog 51 #[.agg #[.slice fa bs.length fc, .slice da dk.length dc], .agg #[.int .i64 k, .int .i64 a, .int .i64 b, .int .i64 c, .bool t]] w fun e w' => StpPost w (evS bs dk ⟨k, a, b, c, t⟩) e w' := by
  have B0 : Below w.heap.size w ((w.alloc (.cells #[.slice fa bs.length fc, .slice da dk.length dc] 26)).alloc (.cells #[.int .i64 k, .int .i64 a, .int .i64 b, .int .i64 c, .bool t] 62)) := ((Below.refl _ _).alloc (Nat.le_refl _) _).alloc (by simp) _
  have cS := (store_box w (.slice fa bs.length fc) (.slice da dk.length dc)).alloc (by simp) (.cells #[.int .i64 k, .int .i64 a, .int .i64 b, .int .i64 c, .bool t] 62)
  have cE := CsAt.new (w.alloc (.cells #[.slice fa bs.length fc, .slice da dk.length dc] 26)) [.int .i64 k, .int .i64 a, .int .i64 b, .int .i64 c, .bool t] 62
  rw [World.size_alloc] at cE
  have s0 : w.heap.size + 2 ≤ ((w.alloc (.cells #[.slice fa bs.length fc, .slice da dk.length dc] 26)).alloc (.cells #[.int .i64 k, .int .i64 a, .int .i64 b, .int .i64 c, .bool t] 62)).heap.size := by simp
  have HA := hide (h.below B0)
  have HC := hide (specOk_st fa fc bs da dc dk _ (h.below B0) hm hp hm2)
  have HN : Hid (stB bs dk = false → evS bs dk ⟨k, a, b, c, t⟩ = []) := fun hs => by unfold evS; rw [hs]; rfl
  clear h
  have x0 := cS.cell 0 _ rfl
  have x1 := cS.cell 1 _ rfl
  go_enter Tryz.func51, Tryz.ntmps51
  go_wp2_with fail
  generalize (w.alloc (.cells #[.slice fa bs.length fc, .slice da dk.length dc] 26)).alloc (.cells #[.int .i64 k, .int .i64 a, .int .i64 b, .int .i64 c, .bool t] 62) = w0 at *
  refine (unhide HC).mono ?_
  rintro e w1 ⟨rfl, b1⟩
  have cS1 := cS.below b1 (by omega)
  have cE1 := cE.below b1 (by omega)
  have B1 := B0.trans (b1.mono B0.size)
  have HA1 := hide ((unhide HA).below b1)
  clear cS cE B0 b1 s0 x0 x1 HC HA
  cases hs : stB bs dk
  · have HE := hide (unhide HN hs)
    have nl := Sts.nil w1 w.heap.size B1.size
    have nB := B1.alloc B1.size (.cells #[] 50)
    go_wp2
    go_ret
    exact ⟨_, rfl, by rw [unhide HE]; exact nl, nB⟩
  have HCL := hide (l21Steps_any k a b c t fa fc bs da dc dk w1 (unhide HA1) hs)
  have x0 := cS1.cell 0 _ rfl
  have x1 := cS1.cell 1 _ rfl
  have e0 := cE1.cell 0 _ rfl
  have e1 := cE1.cell 1 _ rfl
  have e2 := cE1.cell 2 _ rfl
  have e3 := cE1.cell 3 _ rfl
  have e4 := cE1.cell 4 _ rfl
  clear HN HA1 hs
  go_wp2_with fail
  refine (unhide HCL).mono ?_
  rintro e w2 ⟨v, rfl, hS, b2⟩
  have hS2 := hS.mono B1.size
  have B2 := B1.trans (b2.mono B1.size)
  clear x0 x1 e0 e1 e2 e3 e4 cS1 cE1 hS b2 B1 HCL
  go_wp2
  go_ret
  exact ⟨v, rfl, hS2, B2⟩
end Go.Proofs.YtogfelpdgeionaaGreat.PaC
