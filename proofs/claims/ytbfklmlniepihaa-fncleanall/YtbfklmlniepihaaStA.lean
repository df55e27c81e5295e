/-
  Stores in memory, and the specification's reading of them.
-/
import Derived.Test.YtbfklmlniepihaaFindV
import Derived.Test.YtbfklmlniepihaaFindN
namespace Go.Proofs.Ytbfklmlniepihaa.StA
open Go.ChangeShapes Go.WideShapes Go.ChangeAt Go.RowKit Go.Shelf OkA Big Fl ImplB ImplF ImplS _root_.Go.Proofs.Ytbfklmlniepihaa.Own ImplT ImplU SpecA SpecB SpecC SpecD SpecW SpecF SpecG SpecH Ok2 Pl FindP SpecX ImplL FindN FindL FindV Kp
set_option linter.unusedVariables false
set_option linter.unusedSimpArgs false
attribute [local go_sem ↓] Go.wp_at_zero Go.wp_at_succ

/-- Numbers as cells. -/
def isC (l : List Int) : List Value := l.map (.int .i64)
theorem len_isC (l : List Int) : (isC l).length = l.length := by simp [isC]
theorem isC_at {w : World} {b o : Nat} {l : List Int} (h : w.rangeAt b o (isC l)) (j : Nat) (hj : j < l.length) : w.cell? ⟨b, o + j, none⟩ = some (.int .i64 (l.getD j 0)) := by
  refine h j _ ?_
  simp [isC, hj]

/-- The blocks of a list of four lie at a place: the cells of its slices, in any later world. -/
theorem store_box (w : World) (x y : Value) : CsAt (w.alloc (.cells #[x, y] 59)) w.heap.size [x, y] := CsAt.new w [x, y] 59

set_option maxRecDepth 100000 in
set_option maxHeartbeats 1000000 in
theorem dirty_any (a : Option Addr) (cap : Nat) (dv : Value) (addr : Int) (bs : List Bk) (w : World) (hf : FsAt w a bs) (hm : bs.length ≤ 1048576) (hp : ∀ b ∈ bs, b.ps.length ≤ 1048576) :
    Calls Try.prog 38 #[.agg #[.slice a bs.length cap, dv], .int .i64 addr] w fun e w' => e = .returned (.bool (dirtyB bs addr)) ∧ Below w.heap.size w w' := by
  have B0 : Below w.heap.size w (w.alloc (.cells #[.slice a bs.length cap, dv] 59)) := (Below.refl _ _).alloc (Nat.le_refl _) _
  have HLA := hide (SpecL.last_any a cap bs addr _ (hf.below B0) hm hp)
  have HD : Hid (dirtyB bs addr = (lastO bs addr && (lastR bs addr).k == 1)) := rfl
  clear hf
  generalize dirtyB bs addr = R at *
  go_enter Try.func38, Try.ntmps38
  go_wp2_with fail
  refine (unhide HLA).mono ?_
  rintro e w1 ⟨rfl, b1⟩
  generalize lastO bs addr = o at *
  generalize lastR bs addr = r at *
  have B1 := (B0.trans (b1.mono B0.size)).alloc (B0.trans (b1.mono B0.size)).size (.cells #[.int .i64 r.k, .int .i64 r.s, .int .i64 r.a, .int .i64 r.v] 29)
  rw [show (rcC r).toArray = #[.int .i64 r.k, .int .i64 r.s, .int .i64 r.a, .int .i64 r.v] from rfl]
  clear HLA b1 B0
  cases o
  · go_wp2
    go_ret
    exact ⟨by rw [unhide HD]; rfl, B1⟩
  · go_wp2
    go_ret
    exact ⟨by rw [unhide HD]; rfl, B1⟩

set_option maxRecDepth 100000 in
set_option maxHeartbeats 1000000 in
theorem read_any (a : Option Addr) (cap db dof dcap : Nat) (dk : List Int) (h6 : dk.length = 6) (addr : Int) (ha0 : 1 ≤ addr) (ha6 : addr ≤ 6) (bs : List Bk) (w : World) (hf : FsAt w a bs) (hd : w.rangeAt db dof (isC dk)) (hm : bs.length ≤ 1048576) (hp : ∀ b ∈ bs, b.ps.length ≤ 1048576) :
    Calls Try.prog 39 #[.agg #[.slice a bs.length cap, .slice (some ⟨db, dof, none⟩) 6 dcap], .int .i64 addr] w fun e w' => e = .returned (.int .i64 (readI bs dk addr)) ∧ Below w.heap.size w w' := by
  have B0 : Below w.heap.size w (w.alloc (.cells #[.slice a bs.length cap, .slice (some ⟨db, dof, none⟩) 6 dcap] 59)) := (Below.refl _ _).alloc (Nat.le_refl _) _
  have HLA := hide (SpecL.last_any a cap bs addr _ (hf.below B0) hm hp)
  have HD : Hid (readI bs dk addr = if lastO bs addr then (lastR bs addr).v else dk.getD (addr - 1).toNat 0) := rfl
  have hdl : db < w.heap.size := cell_lt (isC_at hd 0 (by omega))
  have cS := store_box w (.slice a bs.length cap) (.slice (some ⟨db, dof, none⟩) 6 dcap)
  have hs0 : w.heap.size < (w.alloc (.cells #[.slice a bs.length cap, .slice (some ⟨db, dof, none⟩) 6 dcap] 59)).heap.size := by simp
  obtain ⟨n, rfl⟩ : ∃ n : Nat, addr = (n : Int) + 1 := ⟨(addr - 1).toNat, by omega⟩
  have hn6 : n < 6 := by omega
  have e1 : ((n : Int) + 1 - 1).toNat = n := by omega
  rw [e1] at HD
  have dn := isC_at hd n (by omega)
  clear hf hd
  generalize readI bs dk ((n : Int) + 1) = R at *
  go_enter Try.func39, Try.ntmps39
  go_wp2_with fail
  refine (unhide HLA).mono ?_
  rintro e w1 ⟨rfl, b1⟩
  generalize lastO bs ((n : Int) + 1) = o at *
  generalize lastR bs ((n : Int) + 1) = r at *
  generalize dk.getD n 0 = v at *
  rw [show (rcC r).toArray = #[.int .i64 r.k, .int .i64 r.s, .int .i64 r.a, .int .i64 r.v] from rfl]
  have B1 := B0.trans (b1.mono B0.size)
  have B2 := B1.alloc B1.size (.cells #[.int .i64 r.k, .int .i64 r.s, .int .i64 r.a, .int .i64 r.v] 29)
  have cS2 := (cS.below b1 hs0).alloc (Nat.lt_of_lt_of_le hs0 b1.size) (.cells #[.int .i64 r.k, .int .i64 r.s, .int .i64 r.a, .int .i64 r.v] 29)
  have x1 := cS2.cell 1 _ rfl
  rw [← B2.cell (p := ⟨db, dof + n, none⟩) hdl] at dn
  have hn0 : (0 : Int) ≤ (n : Int) := by omega
  have hnl : (n : Int) < 6 := by omega
  clear HLA b1 B0 B1 cS
  cases o
  · have e2 : ((n : Int) + 1 - 1) = (n : Int) := by omega
    go_wp2
    go_ret
    exact ⟨by rw [unhide HD]; rfl, B2⟩
  · go_wp2
    go_ret
    exact ⟨by rw [unhide HD]; rfl, B2⟩
end Go.Proofs.Ytbfklmlniepihaa.StA
