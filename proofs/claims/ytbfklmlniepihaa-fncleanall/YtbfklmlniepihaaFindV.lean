/-
  FindLive, of the program and of the specification: both answer the same.
-/
import Derived.Test.YtbfklmlniepihaaFindL
namespace Go.Proofs.Ytbfklmlniepihaa.FindV
open Go.ChangeShapes Go.WideShapes Go.ChangeAt Go.RowKit Go.Shelf OkA Big Fl ImplB ImplF ImplS _root_.Go.Proofs.Ytbfklmlniepihaa.Own ImplT ImplU SpecA SpecB SpecC SpecD SpecW SpecF SpecG SpecH Ok2 Pl FindP SpecX ImplL FindL
set_option linter.unusedVariables false
set_option linter.unusedSimpArgs false
attribute [local go_sem ↓] Go.wp_at_zero Go.wp_at_succ

def pgAt (bs : List Bk) (blk pg : Int) : Pg := (bs.getD blk.toNat zBk).ps.getD pg.toNat zPg
/-- What FindLive answers. -/
def lvR (bs : List Bk) (blk pg : Int) : Bool := okB bs && inB blk 0 3 && inB pg 0 3 && liveB bs (pgAt bs blk pg)
theorem liveB_eq (bs : List Bk) (p : Pg) : liveB bs p = (p.st == 1 && ((lastR bs p.a).k == p.k && (lastR bs p.a).s == p.s && (lastR bs p.a).a == p.a && (lastR bs p.a).v == p.v)) := rfl

set_option maxRecDepth 100000 in
set_option maxHeartbeats 1000000 in
theorem live_any (a : Option Addr) (cap : Nat) (bs : List Bk) (p : Pg) (w : World) (hf : FsAt w a bs) (hm : bs.length ≤ 1048576) (hp : ∀ b ∈ bs, b.ps.length ≤ 1048576) :
    Calls Try.prog 50 #[.slice a bs.length cap, .agg #[.int .i64 p.st, .int .i64 p.k, .int .i64 p.s, .int .i64 p.a, .int .i64 p.v]] w fun e w' => e = .returned (.bool (liveB bs p)) ∧ Below w.heap.size w w' := by
  have B0 : Below w.heap.size w (w.alloc (.cells #[.int .i64 p.st, .int .i64 p.k, .int .i64 p.s, .int .i64 p.a, .int .i64 p.v] 31)) := (Below.refl _ _).alloc (Nat.le_refl _) _
  have cP : CsAt (w.alloc (.cells #[.int .i64 p.st, .int .i64 p.k, .int .i64 p.s, .int .i64 p.a, .int .i64 p.v] 31)) w.heap.size (pgC p) := CsAt.new w (pgC p) 31
  have hs0 : w.heap.size < (w.alloc (.cells #[.int .i64 p.st, .int .i64 p.k, .int .i64 p.s, .int .i64 p.a, .int .i64 p.v] 31)).heap.size := by simp
  have HLA := hide (SpecL.last_any a cap bs p.a _ (hf.below B0) hm hp)
  have HV := hide (liveB_eq bs p)
  clear hf
  generalize liveB bs p = R at *
  go_enter Try.func50, Try.ntmps50
  by_cases hst : p.st = 1
  · have g1 : (p.st != 1) = false := by simp [hst]
    have HST := hide hst
    clear hst
    go_wp2_with fail
    refine (unhide HLA).mono ?_
    rintro e w1 ⟨rfl, b1⟩
    generalize lastO bs p.a = o at *
    generalize lastR bs p.a = r at *
    have c1 := (cP.below b1 hs0).alloc (Nat.lt_of_lt_of_le hs0 b1.size) (.cells #[.int .i64 r.k, .int .i64 r.s, .int .i64 r.a, .int .i64 r.v] 29)
    have B1 := (B0.trans (b1.mono B0.size)).alloc (B0.trans (b1.mono B0.size)).size (.cells #[.int .i64 r.k, .int .i64 r.s, .int .i64 r.a, .int .i64 r.v] 29)
    clear b1 B0 cP hs0 HLA
    have x1 := c1.cell 1 _ rfl
    have x2 := c1.cell 2 _ rfl
    have x3 := c1.cell 3 _ rfl
    have x4 := c1.cell 4 _ rfl
    rw [show (rcC r).toArray = #[.int .i64 r.k, .int .i64 r.s, .int .i64 r.a, .int .i64 r.v] from rfl]
    rw [unhide HST] at HV
    obtain ⟨rk, rs, ra, rv⟩ := r
    dsimp only at *
    by_cases h1 : rk = p.k
    · subst h1
      by_cases h2 : rs = p.s
      · subst h2
        by_cases h3 : ra = p.a
        · subst h3
          by_cases h4 : rv = p.v
          · subst h4
            have HE : Hid (R = true) := by show _ = _; rw [unhide HV]; simp
            go_wp2
            go_ret
            exact ⟨by rw [unhide HE]; rfl, B1⟩
          · have HE : Hid (R = false) := by show _ = _; rw [unhide HV]; simp [h4]
            go_wp2
            go_ret
            exact ⟨by rw [unhide HE]; rfl, B1⟩
        · have HE : Hid (R = false) := by show _ = _; rw [unhide HV]; simp [h3]
          go_wp2
          go_ret
          exact ⟨by rw [unhide HE]; rfl, B1⟩
      · have HE : Hid (R = false) := by show _ = _; rw [unhide HV]; simp [h2]
        go_wp2
        go_ret
        exact ⟨by rw [unhide HE]; rfl, B1⟩
    · have HE : Hid (R = false) := by show _ = _; rw [unhide HV]; simp [h1]
      go_wp2
      go_ret
      exact ⟨by rw [unhide HE]; rfl, B1⟩
  · have g1 : (p.st != 1) = true := by simp [hst]
    have HE : Hid (R = false) := by show _ = _; rw [unhide HV]; simp [hst]
    clear hst
    go_wp2
    go_ret
    exact ⟨by rw [unhide HE]; rfl, B0⟩

theorem range_pgV {w : World} {b o : Nat} {ps : List Pg} (h : w.rangeAt b o (psC ps)) (k : Nat) (hk : k < ps.length) : w.rangeAt b (o + k * 5) (pgC ps[k]) := by
  have := rangeAt_sub h (k * 5) 5
  rwa [part_ps ps k hk] at this
theorem size_pgV (p : Pg) : (Try.prog.info? 31).map (·.size) = some (pgC p).length := by rw [len_pgC]; kernel_rfl
theorem here : True := trivial
end Go.Proofs.Ytbfklmlniepihaa.FindV
