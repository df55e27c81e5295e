/-
  What a call has answered, a list of numbers: whether two are the same, marks, and what marks on a store leave as it was.
-/
import Derived.Test.YtahloklmogkaeaaLawS
namespace Go.Proofs.Ytahloklmogkaeaa.LawT
open Go.ChangeShapes Go.WideShapes Go.ChangeAt Go.RowKit Go.Shelf Go.Joins OkA Big Fl ImplB ImplF ImplS _root_.Go.Proofs.Ytahloklmogkaeaa.Own ImplT ImplU SpecA SpecB SpecC SpecD SpecW Ok2 Pl ImplL Kp StA StB StD StF StG LawsA LawsB LawsE LawV LawI LawS OpenF MarkB
set_option linter.unusedVariables false
set_option linter.unusedSimpArgs false
attribute [local go_sem ↓] Go.wp_at_zero Go.wp_at_succ

/-- All blocks that were there, but for those of L, read as they read. -/
structure OnlyG (L : List Nat) (w w' : World) : Prop where
  size : w.heap.size ≤ w'.heap.size
  cell : ∀ x p, x < w.heap.size → x ∉ L → w'.cell? ⟨x, p, none⟩ = w.cell? ⟨x, p, none⟩
  frozen : ∀ x p, x < w.heap.size → x ∉ L → w'.frozen? ⟨x, p, none⟩ = w.frozen? ⟨x, p, none⟩
variable {w w' w'' : World} {L : List Nat}
theorem OnlyG.of (h : Below w.heap.size w w') : OnlyG L w w' := ⟨h.size, fun x p hx _ => h.cell (p := ⟨x, p, none⟩) hx, fun x p hx _ => h.frozen (p := ⟨x, p, none⟩) hx⟩
theorem OnlyG.only (h : Only L w w') : OnlyG L w w' := ⟨by rw [h.size]; exact Nat.le_refl _, fun x p _ hx => h.cell x p hx, fun x p _ hx => h.frozen x p hx⟩
theorem OnlyG.kept (h : Kept L w w') : OnlyG L w w' := ⟨h.size, fun x p hx hn => h.cell p hx hn, fun x p hx hn => h.frozen p hx hn⟩
theorem OnlyG.trans (h : OnlyG L w w') (g : OnlyG L w' w'') : OnlyG L w w'' :=
  ⟨Nat.le_trans h.size g.size, fun x p hx hn => (g.cell x p (Nat.lt_of_lt_of_le hx h.size) hn).trans (h.cell x p hx hn), fun x p hx hn => (g.frozen x p (Nat.lt_of_lt_of_le hx h.size) hn).trans (h.frozen x p hx hn)⟩
theorem OnlyG.sub {M : List Nat} (h : OnlyG L w w') (hs : ∀ x ∈ L, x ∈ M ∨ w.heap.size ≤ x) : OnlyG M w w' :=
  ⟨h.size, fun x p hx hn => h.cell x p hx (fun hm => (hs x hm).elim hn (fun q => by omega)), fun x p hx hn => h.frozen x p hx (fun hm => (hs x hm).elim hn (fun q => by omega))⟩

/-- A list of numbers: empty, or a row of its own from lo to hi. -/
def InI (w : World) (lo hi : Nat) (v : Value) (l : List Int) : Prop := (l = [] ∧ ∃ a c, v = .slice a 0 c) ∨ ∃ g cap, v = .slice (some ⟨g, 0, none⟩) l.length cap ∧ lo ≤ g ∧ g < hi ∧ CsAt w g (isC l)
theorem InI.of {lo : Nat} {v : Value} {l : List Int} (h : NewIs w lo v l) : InI w lo w.heap.size v l := by
  rcases h with h | ⟨g, cap, e, h1, h2, h⟩
  · exact .inl h
  · exact .inr ⟨g, cap, e, h1, h2, h⟩
theorem InI.only {lo hi : Nat} {v : Value} {l : List Int} (h : InI w lo hi v l) (ho : OnlyG L w w') (hh : hi ≤ w.heap.size) (hL : ∀ x ∈ L, x < lo ∨ hi ≤ x) : InI w' lo hi v l := by
  rcases h with h | ⟨g, cap, e, h1, h2, h⟩
  · exact .inl h
  · have hg : g ∉ L := fun hm => by have := hL g hm; omega
    exact .inr ⟨g, cap, e, h1, h2, fun j u hu => by rw [ho.cell g _ (by omega) hg]; exact h.cells j u hu, fun j hj => by rw [ho.cell g _ (by omega) hg, ho.frozen g _ (by omega) hg]; exact h.free j hj⟩
theorem InI.below {lo hi : Nat} {v : Value} {l : List Int} (h : InI w lo hi v l) (hb : Below w.heap.size w w') (hh : hi ≤ w.heap.size) : InI w' lo hi v l := h.only (L := []) (OnlyG.of hb) hh (fun x hx => by simp at hx)
theorem InI.form {lo hi : Nat} {v : Value} {l : List Int} (h : InI w lo hi v l) : ∃ a cap, v = .slice a l.length cap ∧ DkAt w a l := by
  rcases h with ⟨rfl, a, c, rfl⟩ | ⟨g, cap, rfl, _, _, h⟩
  · exact ⟨a, c, rfl, .inl rfl⟩
  · exact ⟨_, cap, rfl, .inr ⟨g, 0, rfl, h.cells⟩⟩
theorem eqI {l1 h1 l2 h2 : Nat} {v1 v2 : Value} {l : List Int} (hl : l.length ≤ 6) (g1 : InI w l1 h1 v1 l) (g2 : InI w l2 h2 v2 l) :
    Calls Try.prog 32 #[v1, v2] w fun e w' => e = .returned (.bool true) ∧ Below w.heap.size w w' := by
  obtain ⟨a1, c1, rfl, d1⟩ := g1.form
  obtain ⟨a2, c2, rfl, d2⟩ := g2.form
  exact eqIntS_any a1 a2 c1 c2 l w d1 d2 (by omega)
theorem markI_nil (a : Option Addr) (cap : Nat) (w : World) : Calls Try.prog 33 #[.slice a 0 cap, .int .i64 1] w fun e w' => e = .returned (.int .i64 1) ∧ w' = w := by
  go_enter Try.func33, Try.ntmps33
  go_wp2
  go_loop [5, 1] (fun i m => i = .int .i64 0 ∧ m = .int .i64 1) (fun _ _ => 0)
  case atStart => exact ⟨rfl, rfl⟩
  case round =>
    obtain ⟨rfl, rfl⟩ := hrel
    go_wp2
    go_ret
    exact ⟨rfl, rfl⟩
def MvI (w : World) (lo hi : Nat) (v : Value) (n : Nat) (e : Ending) (w' : World) : Prop := e = .returned (.int .i64 (1 + (n : Nat))) ∧ InI w' lo hi v (mkI n 1) ∧ ∃ M : List Nat, OnlyG M w w' ∧ Below lo w w' ∧ ∀ x ∈ M, lo ≤ x ∧ x < hi
theorem markI {lo hi : Nat} {v : Value} {l : List Int} (hl : l.length ≤ 6) (hlo : lo ≤ w.heap.size) (h : InI w lo hi v l) :
    Calls Try.prog 33 #[v, .int .i64 1] w fun e w' => MvI w lo hi v l.length e w' := by
  rcases h with ⟨rfl, a, c, rfl⟩ | ⟨g, cap, rfl, h1, h2, h⟩
  · refine (markI_nil a c w).mono ?_
    rintro e w' ⟨rfl, rfl⟩
    exact ⟨rfl, .inl ⟨rfl, a, c, rfl⟩, [], OnlyG.of (Below.refl _ _), Below.refl _ _, fun x hx => by simp at hx⟩
  · refine (markIntS_any g cap l 1 w h (by omega) (by omega) (by omega)).mono ?_
    rintro e w' ⟨rfl, c, o, k⟩
    exact ⟨rfl, .inr ⟨g, cap, by rw [mkI_len], h1, h2, c⟩, [g], OnlyG.only o, k.below (fun x hx => by simp at hx; subst hx; exact h1) hlo, fun x hx => by simp at hx; subst hx; exact ⟨h1, h2⟩⟩
theorem heldI {lo hi : Nat} {v : Value} {n : Nat} (hn : n ≤ 6) (h : InI w lo hi v (mkI n 1)) :
    Calls Try.prog 34 #[v, .int .i64 1] w fun e w' => e = .returned (.int .i64 (1 + (n : Nat))) ∧ w' = w := by
  obtain ⟨a, c, rfl, f⟩ := h.form
  rw [mkI_len]
  exact heldIntS_any a c n 1 w (by omega) (by omega) (by omega) f

/-- Marks on a store of any shape. -/
def MsPost (w : World) (lo g : Nat) (G : List Nat) (d : Nat) (e : Ending) (w' : World) : Prop := ∃ m : Int, e = .returned (.int .i64 m) ∧ 0 ≤ m ∧ OnlyG (d :: g :: G) w w' ∧ Below lo w w'
set_option maxHeartbeats 1000000 in
theorem markS_any (lo g d c1 c2 : Nat) (G : List Nat) (z : List Bk) (dk : List Int) (w : World) (hlo : lo ≤ w.heap.size) (o : OwnS w lo g G d z dk) (hl : z.length ≤ 1048576) (hp : ∀ b ∈ z, b.ps.length ≤ 1048576) (hd : dk.length ≤ 1048576) :
    Calls Try.prog 22 #[.agg #[.slice (some ⟨g, 0, none⟩) z.length c1, .slice (some ⟨d, 0, none⟩) dk.length c2], .int .i64 1] w fun e w' => MsPost w lo g G d e w' := by
  have B0 : Below w.heap.size w (w.alloc (.cells #[.slice (some ⟨g, 0, none⟩) z.length c1, .slice (some ⟨d, 0, none⟩) dk.length c2] 25)) := (Below.refl _ _).alloc (Nat.le_refl _) _
  have cS := store_box w (.slice (some ⟨g, 0, none⟩) z.length c1) (.slice (some ⟨d, 0, none⟩) dk.length c2)
  have s0 : (w.alloc (.cells #[.slice (some ⟨g, 0, none⟩) z.length c1, .slice (some ⟨d, 0, none⟩) dk.length c2] 25)).heap.size = w.heap.size + 1 := by simp
  have o0 := o.below B0 (Nat.le_refl _)
  have hhi : ∀ x ∈ d :: g :: G, x < w.heap.size := fun x hx => by
    rcases List.mem_cons.1 hx with rfl | hx
    · exact o.dhi
    · exact o.own.hi x hx
  have x0 := cS.cell 0 _ rfl
  have hdn := o.dne
  have HP : Hid (Sized z) := hp
  clear o
  go_enter Try.func22, Try.ntmps22
  go_wp2_with fail
  generalize w.alloc (.cells #[.slice (some ⟨g, 0, none⟩) z.length c1, .slice (some ⟨d, 0, none⟩) dk.length c2] 25) = w0 at *
  refine (markL_any lo g c1 z.length G z w0 o0.own hl (unhide HP)).mono ?_
  rintro e w1 ⟨m, rfl, m0, m1, y1, b1⟩
  have g1 : OnlyG (d :: g :: G) w w1 := (OnlyG.of B0).trans ((OnlyG.only y1).sub (fun x hx => .inl (List.mem_cons_of_mem _ hx)))
  have z1 := y1.size
  have hSn : w.heap.size ∉ g :: G := fun hm => by have := hhi _ (List.mem_cons_of_mem _ hm); omega
  have x1 : w1.cell? ⟨w.heap.size, 1, none⟩ = some (.slice (some ⟨d, 0, none⟩) dk.length c2) := by rw [y1.cell _ _ hSn]; exact cS.cell 1 _ rfl
  have c1' : CsAt w1 d (isC dk) := ⟨fun j v hv => by rw [y1.cell d _ hdn]; exact o0.ds.cells j v hv, fun j hj => by rw [y1.cell d _ hdn, y1.frozen d _ hdn]; exact o0.ds.free j hj⟩
  have B1 := (B0.mono hlo).trans b1
  have hdl := o0.dlo
  have hdh := hhi d (by simp)
  clear cS x0 o0 y1 b1 B0
  go_wp2_with fail
  refine (markIntS_any d c2 dk m w1 c1' hd m0 m1).mono ?_
  rintro e w2 ⟨rfl, _, y2, k2⟩
  have g2 : OnlyG (d :: g :: G) w w2 := g1.trans ((OnlyG.only y2).sub (fun x hx => by simp at hx; subst hx; exact .inl (by simp)))
  have B2 := B1.trans (k2.below (B := lo) (fun x hx => by simp at hx; subst hx; exact hdl) (by omega))
  clear x1 y2 k2 g1 B1
  have hm : 0 ≤ m + (dk.length : Nat) := by omega
  go_wp2
  go_ret
  exact ⟨m + (dk.length : Nat), rfl, hm, g2, B2⟩
end Go.Proofs.Ytahloklmogkaeaa.LawT
