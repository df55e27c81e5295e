/-
  Rows of events that a law makes: appended to, and changed in place.
-/
import Derived.Test.YtbiokmojjneleaaGreatRcQ
import Derived.Laws.AppendOwnNone
namespace Go.Proofs.YtbiokmojjneleaaGreat.Rl
open Go.ChangeShapes Go.WideShapes Go.ChangeAt Go.RowKit Go.Shelf Big Fl ImplF ImplL Kp StA RmA DoA AlA DpA NwA Pick Draw EvA ImplB ImplS ImplU SpecC SpecD SpecW ImplW PyA FlB ClA DrB StB StG StN Fu DrF PaA EvL EvS PyE
set_option linter.unusedVariables false
set_option linter.unusedSimpArgs false

theorem _root_.Go.Proofs.YtbiokmojjneleaaGreat.PyA.Evs.keptN {w w' : World} {lo : Nat} {v : Value} {n : Nat} {cs : List Value} (h : Evs w lo v n cs) {L : List Nat} (k : Kept L w w') (hL : ∀ g, v.ownBlock = some g → g ∉ L) : Evs w' lo v n cs := by
  refine ⟨?_, fun g hg => ⟨(h.lt g hg).1, Nat.lt_of_lt_of_le (h.lt g hg).2 k.size⟩⟩
  obtain ⟨h1, h2⟩ := h.row
  refine ⟨h1, ?_⟩
  rcases h2 with h2 | ⟨g, cap, cur, e, hb, hh, r⟩
  · exact .inl h2
  · refine .inr ⟨g, cap, cur, e, hb, ?_, r⟩
    have hg := h.lt g (by rw [e]; rfl)
    rw [k.block g hg.2 (hL g (by rw [e]; rfl))]
    exact hh
theorem _root_.Go.Proofs.YtbiokmojjneleaaGreat.PyA.Evs.below {w w' : World} {lo : Nat} {v : Value} {n : Nat} {cs : List Value} (h : Evs w lo v n cs) (b : Below w.heap.size w w') : Evs w' lo v n cs := h.keptN (L := []) (Kept.of b) (fun _ _ => by simp)
theorem _root_.Go.Proofs.YtbiokmojjneleaaGreat.PyA.Evs.stored {w : World} {lo g n cap : Nat} {cs : List Value} (h : Evs w lo (.slice (some ⟨g, 0, none⟩) n cap) n cs) (j : Nat) (u : Value) : Evs (w.setCell ⟨g, j, none⟩ u) lo (.slice (some ⟨g, 0, none⟩) n cap) n (cs.set j u) ∧ Kept [g] w (w.setCell ⟨g, j, none⟩ u) := by
  have hs := (h.row.stored j u).1
  have hk : Kept [g] w (w.setCell ⟨g, j, none⟩ u) := kept_cell w g j u
  exact ⟨⟨hs, fun k hk' => ⟨(h.lt k hk').1, Nat.lt_of_lt_of_le (h.lt k hk').2 hk.size⟩⟩, hk⟩
theorem evs_es {w : World} {lo : Nat} {a : Option Addr} {n c : Nat} {l : List Ev} (h : Evs w lo (.slice a n c) n (esC l)) (hl : l.length = n) : EsAt w a l := by
  obtain ⟨_, h2⟩ := h.row
  rcases h2 with ⟨e, hn⟩ | ⟨g, cap, cur, e, hb, hh, h3, h4, _⟩
  · exact .inl (List.eq_nil_of_length_eq_zero (by omega))
  · cases e
    refine .inr ⟨g, 0, rfl, fun j u hu => ?_⟩
    have := h.row.cells rfl j u hu
    rw [Addr.add_lit] at this; exact this
theorem esC_push (l : List Ev) (x : Ev) : esC (l ++ [x]) = esC l ++ evC x := by unfold esC; rw [List.flatMap_append]; simp
theorem esC_app (l m : List Ev) : esC (l ++ m) = esC l ++ esC m := by unfold esC; rw [List.flatMap_append]
theorem esC_cons (x : Ev) (m : List Ev) : esC (x :: m) = evC x ++ esC m := by unfold esC; rw [List.flatMap_cons]
/-- The cells of a list of events, to be appended. -/
theorem es_news {w : World} {b : Nat} {l : List Ev} (h : EsAt w (some ⟨b, 0, none⟩) l) : ∀ j u, (esC l)[j]? = some u → w.cell? ((⟨b, 0, none⟩ : Addr).add j) = some u := fun j u hu => by
  rcases h with rfl | ⟨b', o, e, h⟩
  · simp [esC] at hu
  · cases e
    have := h j u hu
    rw [Addr.add_lit]; exact this
theorem one_esC (l : List Ev) : ∀ v ∈ esC l, v.oneCell' = true := by
  intro v hv
  unfold esC at hv
  obtain ⟨x, _, h⟩ := List.mem_flatMap.1 hv
  exact EvS.one_evC x v h
/-- An event that is done, whatever falls. -/
def fx (x : Ev) : Ev := ⟨x.k, x.a, x.b, 60, false⟩
theorem fx_set (A B : List Ev) (x : Ev) (j : Nat) (hj : A.length = j) : ((esC (A ++ x :: B)).set (j * 5 + 3) (.int .i64 60)).set (j * 5 + 4) (.bool false) = esC (A ++ fx x :: B) := by
  have hl : (esC A).length = j * 5 := by rw [len_esC, hj]
  rw [esC_app, esC_app, esC_cons, esC_cons]
  rw [List.set_append_right _ _ (by omega), List.set_append_right _ _ (by rw [hl]; omega), hl, show j * 5 + 3 - j * 5 = 3 by omega, show j * 5 + 4 - j * 5 = 4 by omega]
  rfl
theorem part_at (A B : List Ev) (x : Ev) (j : Nat) (hj : A.length = j) (i : Nat) (hi : i < 5) : (esC (A ++ x :: B))[j * 5 + i]? = (evC x)[i]? := by
  have hl : (esC A).length = j * 5 := by rw [len_esC, hj]
  rw [esC_app, esC_cons, List.getElem?_append_right (by omega), hl, show j * 5 + i - j * 5 = i by omega, List.getElem?_append_left (by show i < 5; exact hi)]
theorem _root_.Go.Proofs.YtbiokmojjneleaaGreat.PyA.Evs.pushE {w w' : World} {lo : Nat} {v v' : Value} {n : Nat} {l : List Ev} {x : Ev} (h : Evs w lo v n (esC l)) (hlo : lo ≤ w.heap.size) (ho : w'.ownsRow lo 42 5 v' (n + 1) (esC l ++ [.int .i64 x.k, .int .i64 x.a, .int .i64 x.b, .int .i64 x.c, .bool x.t])) (hg : w.grownBy w' v.ownBlock) : Evs w' lo v' (n + 1) (esC (l ++ [x])) ∧ Below lo w w' := by
  rw [esC_push]
  exact h.push hlo ho hg
theorem _root_.Go.Proofs.YtbiokmojjneleaaGreat.PyA.Evs.pushN {w w' : World} {lo : Nat} {v v' : Value} {n m : Nat} {cs ds : List Value} (h : Evs w lo v n cs) (hlo : lo ≤ w.heap.size) (ho : w'.ownsRow lo 42 5 v' m ds) (hg : w.grownBy w' v.ownBlock) : Evs w' lo v' m ds ∧ Below lo w w' := by
  refine ⟨⟨ho, fun g e => ?_⟩, (Below.refl _ _).grown hg hlo (fun k e => (h.lt k e).1)⟩
  obtain ⟨_, h2⟩ := ho
  rcases h2 with ⟨h2, _⟩ | ⟨g', cap, cur, rfl, hb, hh, _⟩
  · rw [h2] at e; simp [Value.ownBlock] at e
  · simp [Value.ownBlock] at e
    subst e
    refine ⟨hb, ?_⟩
    by_cases hlt : g' < w'.heap.size
    · exact hlt
    · have : w'.heap[g']? = none := by simp; omega
      rw [this] at hh; cases hh
/-- A list of events is appended to a row. -/
theorem wpList_append_es {P : Program} {w : World} {ops : Array Oper} {rest : List Oper} {o : Oper} {a : Act} {Q : Exit → Act → World → Prop} (hgd : o.guard = none) (s x : Operand) (t : TypeId)
    (ho : o.op = .call { callee := .builtin .append, args := #[s, x], argTypes := #[t, t] })
    (base : Nat) (e : TypeId) (i : TypeInfo) (z : Value) (size bytes : Nat) (ht : P.underlying t = some (.slice e)) (hi : P.info? e = some i) (hz : i.zero = some z)
    (hsize : i.size = size) (hby : i.bytes = bytes) (hzs : z.cells.size = size) (hsz : 0 < size) (h5 : size = 5)
    (v : Value) (n : Nat) (xs : List Value) (hs : a.eval s = v) (hown : w.ownsRow base e size v n xs)
    (ea : Option Addr) (ec : Nat) (L : List Ev) (hE : EsAt w ea L) (hac : (ea = none ∧ ec = 0 ∧ L.length = 0) ∨ ∃ g, ea = some ⟨g, 0, none⟩) (hx : a.eval x = .slice ea L.length ec)
    (h63 : n + L.length ≤ maxLen) (hbytes : (n + L.length) * bytes ≤ 140737488355328) (hbase : base ≤ w.heap.size)
    (h : ∀ v' w', w'.ownsRow base e size v' (n + L.length) (xs ++ esC L) → w.grownBy w' v.ownBlock → wpList P ops Q rest (a.put o.dst v') w') : wpList P ops Q (o :: rest) a w := by
  rcases hac with ⟨rfl, rfl, h0⟩ | ⟨g, rfl⟩
  · have hL : L = [] := List.eq_nil_of_length_eq_zero h0
    subst hL
    refine wpList_append_own_none hgd s x t ho base e i size ht hi v n xs hs hown hx (h v w ?_ ⟨rfl, rfl, rfl, Nat.le_refl _, fun k _ _ => rfl⟩)
    simpa [esC] using hown
  · exact wpList_append_own w hgd s x t ho base e i z size bytes ht hi hz hsize hby hzs hsz v n xs hs hown ⟨g, 0, none⟩ L.length ec (esC L) hx (by rw [len_esC, h5]) (es_news hE) (one_esC L) h63 hbytes hbase fun v' w' h1 h2 _ => h v' w' h1 h2
/-! What is read of plays that are done, whatever falls. -/
theorem lastV_filter (p : Ev → Bool) (a : Int) (hp : ∀ x, p x = false → ¬ (x.k = 1 ∧ x.a = a)) : ∀ (M : List Ev) (v : Int), (M.filter p).foldl (Nr.pv a) v = M.foldl (Nr.pv a) v
  | [], _ => rfl
  | x :: r, v => by
    rw [List.foldl_cons]
    cases h : p x
    · rw [List.filter_cons_of_neg (by rw [h]; simp), lastV_filter p a hp r v]
      have : Nr.pv a v x = v := by unfold Nr.pv; rw [if_neg (fun q => hp x h ⟨q.1, q.2.1⟩)]
      rw [this]
    · rw [List.filter_cons_of_pos h, List.foldl_cons]; exact lastV_filter p a hp r _
theorem fx_A {x : Ev} (h : EvIn x) : Nr.EvA (fx x) := fun _ => ⟨h.2.2.1, h.2.2.2.1, h.2.2.2.2.1, h.2.2.2.2.2.1, by show (0 : Int) ≤ 60; omega⟩
theorem fx_ok {x : Ev} (h : EvIn x) : EvOk (fx x) := by unfold EvIn at h; unfold EvOk; exact ⟨by show -9223372036854775808 ≤ x.a ∧ x.a ≤ 9223372036854775807; omega, by show -9223372036854775808 ≤ (60 : Int) ∧ (60 : Int) ≤ 9223372036854775807; omega⟩
theorem fxs_last {L N : List Ev} (hin : ∀ x ∈ L, EvIn x) (hl : L.length ≤ 60) (p : Ev → Bool) (hN : N = (L.map fx).filter p) (a : Int) (a1 : 1 ≤ a) (a6 : a ≤ 6) (hp : ∀ x, p x = false → ¬ (x.k = 1 ∧ x.a = a)) : Pl.readI (PrA.runP N).1 (PrA.runP N).2 a = Pl.readI (PrA.runP (L.map fx)).1 (PrA.runP (L.map fx)).2 a := by
  have hA : ∀ x ∈ L.map fx, Nr.EvA x := fun x hx => by obtain ⟨y, hy, rfl⟩ := List.mem_map.1 hx; exact fx_A (hin y hy)
  have hC : ∀ x ∈ L.map fx, x.k = 1 → x.c = 0 ∨ 6 ≤ x.c := fun x hx _ => by obtain ⟨y, hy, rfl⟩ := List.mem_map.1 hx; right; show (6 : Int) ≤ 60; omega
  have hlm : (L.map fx).length ≤ 90 := by rw [List.length_map]; omega
  have hsub : ∀ x ∈ N, x ∈ L.map fx := fun x hx => by rw [hN] at hx; exact (List.mem_filter.1 hx).1
  have hln : N.length ≤ 90 := by rw [hN]; exact Nat.le_trans (List.length_filter_le _ _) hlm
  rw [Nr.run_last N hln (fun x hx => hA x (hsub x hx)) (fun x hx => hC x (hsub x hx)) a a1 a6, Nr.run_last (L.map fx) hlm hA hC a a1 a6]
  unfold Nr.lastV
  rw [hN]
  exact lastV_filter p a hp _ _
theorem fxs_al {L N : List Ev} (hin : ∀ x ∈ L, EvIn x) (hl : L.length ≤ 60) (p : Ev → Bool) (hN : N = (L.map fx).filter p) (hp : ∀ a x, p x = false → ¬ (x.k = 1 ∧ x.a = a)) : SpT.alS (PrA.runP N).1 (PrA.runP N).2 = SpT.alS (PrA.runP (L.map fx)).1 (PrA.runP (L.map fx)).2 :=
  Ct.Sm.al ⟨PrA.runP_st N, fun a a1 a6 => fxs_last hin hl p hN a a1 a6 (hp a)⟩ (PrA.runP_st _)
theorem take_fx (L : List Ev) (j : Nat) (hj : j < L.length) : (L.take (j + 1)).map fx ++ L.drop (j + 1) = (L.take j).map fx ++ fx L[j] :: L.drop (j + 1) := by
  rw [List.take_succ_eq_append_getElem hj, List.map_append, List.append_assoc]; rfl
theorem drop_fx (L : List Ev) (j : Nat) (hj : j < L.length) : (L.take j).map fx ++ L.drop j = (L.take j).map fx ++ L[j] :: L.drop (j + 1) := by
  rw [List.drop_eq_getElem_cons hj]
theorem take_filter (L : List Ev) (p : Ev → Bool) (j : Nat) (hj : j < L.length) : ((L.take (j + 1)).map fx).filter p = ((L.take j).map fx).filter p ++ (if p (fx L[j]) then [fx L[j]] else []) := by
  rw [List.take_succ_eq_append_getElem hj, List.map_append, List.filter_append]
  simp [List.filter_cons]
end Go.Proofs.YtbiokmojjneleaaGreat.Rl
