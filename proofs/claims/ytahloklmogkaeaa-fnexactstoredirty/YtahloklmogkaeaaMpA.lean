/-
  A map from addresses to records that a call has made: what is asked of it, what is laid into it. Nothing here walks the program.
-/
import Derived.Test.YtahloklmogkaeaaFindL
import Derived.Maps.OwnSet
namespace Go.Proofs.Ytahloklmogkaeaa.MpA
open Go.ChangeShapes Go.WideShapes Go.ChangeAt Go.RowKit Go.Shelf OkA Big Fl Pl ImplL FindL Kp
open Go.Maps (Keyed)
set_option linter.unusedVariables false
set_option linter.unusedSimpArgs false

def recD (r : Rc) : DataW Unit := .agg [.lit (.int .i64 r.k), .lit (.int .i64 r.s), .lit (.int .i64 r.a), .lit (.int .i64 r.v)]
theorem recD_inj {r q : Rc} (h : recD r = recD q) : r = q := by
  cases r; cases q
  simp [recD] at h
  obtain ⟨rfl, rfl, rfl, rfl⟩ := h
  rfl
/-- How a record reads. -/
def recR (v : Value) : Option (DataW Unit × List MemPlace) :=
  match v with
  | .agg cs => match cs.toList with
    | [.int .i64 k, .int .i64 s, .int .i64 a, .int .i64 v] => some (recD ⟨k, s, a, v⟩, [])
    | _ => none
  | _ => none
theorem recR_mk (r : Rc) : recR (.agg (rcC r).toArray) = some (recD r, []) := rfl
theorem recR_inv {v : Value} {r : Rc} {ps : List MemPlace} (h : recR v = some (recD r, ps)) : v = .agg (rcC r).toArray := by
  unfold recR at h
  split at h
  · rename_i cs
    split at h
    · rename_i k s a v e
      simp only [Option.some.injEq, Prod.mk.injEq] at h
      obtain rfl := recD_inj h.1
      have : cs = (rcC ⟨k, s, a, v⟩).toArray := by apply Array.ext'; rw [e]; rfl
      rw [this]
    · cases h
  · cases h
theorem law : Keyed Try.prog 3 := Maps.int_keyed Try.underlying3
theorem key {i : Int} (h0 : -9223372036854775808 ≤ i) (h1 : i ≤ 9223372036854775807) : keyOf Try.prog 3 (.int .i64 i) = some (.int .i64 i) := Maps.keyOf_int_mk Try.underlying3 (by simp [Lit.wf, IntKind.min, IntKind.max, IntKind.bits, IntKind.signed]; omega)
theorem zeroR (w : World) : (zeroValue 53).run Try.prog w = .ok (.agg (rcC zRc).toArray) w := by
  have h : (Try.prog.info? 53).bind (·.zero) = some (.agg (rcC zRc).toArray) := by kernel_rfl
  cases hq : Try.prog.info? 53 with
  | none => rw [hq] at h; cases h
  | some i => rw [hq] at h; simp at h; simp [zeroValue, typeInfo, hq, h]

/-- Block b is a map of at most n records, which has f of each address. -/
def MapAt (w : World) (b n : Nat) (f : Int → Option Rc) : Prop :=
  ∃ D : DataW Unit, w.ownsMap Try.prog 3 recR b n D ∧ ∀ i : Int, Maps.has D (.int .i64 i) = (f i).isSome ∧ D.atKey (.int .i64 i) (recD zRc) = recD ((f i).getD zRc)
variable {w w' : World} {b n : Nat} {f : Int → Option Rc}
theorem MapAt.new (w : World) : MapAt (w.alloc (.map #[] 0)) w.heap.size 0 (fun _ => none) := ⟨_, World.ownsMap_made w _ _ _, fun i => ⟨rfl, rfl⟩⟩
theorem MapAt.mono (h : MapAt w b n f) {m : Nat} (hm : n ≤ m) : MapAt w b m f := by obtain ⟨D, h1, h2⟩ := h; exact ⟨D, h1.mono hm, h2⟩
theorem MapAt.ext (h : MapAt w b n f) {g : Int → Option Rc} (hg : ∀ i, g i = f i) : MapAt w b n g := by obtain ⟨D, h1, h2⟩ := h; exact ⟨D, h1, fun i => by rw [hg i]; exact h2 i⟩
theorem MapAt.lt (h : MapAt w b n f) : b < w.heap.size := by obtain ⟨D, h1, h2⟩ := h; exact h1.lt
theorem MapAt.below (h : MapAt w b n f) {B : Nat} (hb : Below B w w') (hl : b < B) : MapAt w' b n f := by
  obtain ⟨D, ⟨es, clock, hh, r⟩, h2⟩ := h
  exact ⟨D, ⟨es, clock, (hb.block b hl).trans hh, r⟩, h2⟩
theorem MapAt.keptL {L : List Nat} (h : MapAt w b n f) (hk : Kept L w w') (hn : b ∉ L) : MapAt w' b n f := by
  have hl := h.lt
  obtain ⟨D, ⟨es, clock, hh, r⟩, h2⟩ := h
  exact ⟨D, ⟨es, clock, (hk.block b hl hn).trans hh, r⟩, h2⟩
theorem MapAt.look (h : MapAt w b n f) {i : Int} (h0 : -9223372036854775808 ≤ i) (h1 : i ≤ 9223372036854775807) :
    (Instr.lookup 68 (.map (some b)) (.int .i64 i) false).run Try.prog w = .ok (.agg (rcC ((f i).getD zRc)).toArray) w := by
  obtain ⟨D, ho, h2⟩ := h
  obtain ⟨v, ps, hr, hv⟩ := ho.lookup law Try.underlying68 (zeroR w) (recR_mk zRc) (key h0 h1)
  rw [(h2 i).2] at hv
  rw [hr, recR_inv hv]
theorem MapAt.look2 (h : MapAt w b n f) {i : Int} (h0 : -9223372036854775808 ≤ i) (h1 : i ≤ 9223372036854775807) :
    (Instr.lookup 68 (.map (some b)) (.int .i64 i) true).run Try.prog w = .ok (.tuple #[.agg (rcC ((f i).getD zRc)).toArray, .bool (f i).isSome]) w := by
  obtain ⟨D, ho, h2⟩ := h
  obtain ⟨v, ps, hr, hv⟩ := ho.look_ok law Try.underlying68 (zeroR w) (recR_mk zRc) (key h0 h1)
  rw [(h2 i).2] at hv
  rw [hr, recR_inv hv, (h2 i).1]
theorem MapAt.put (h : MapAt w b n f) (hn : n < 1000) {i : Int} (h0 : -9223372036854775808 ≤ i) (h1 : i ≤ 9223372036854775807) (r : Rc) :
    ∃ w', (Instr.mapUpdate 68 (.map (some b)) (.int .i64 i) (.agg (rcC r).toArray)).run Try.prog w = .ok () w' ∧ MapAt w' b (n + 1) (fun j => if j = i then some r else f j) ∧ w.grownBy w' (some b) := by
  obtain ⟨D, ho, h2⟩ := h
  have hm := ho.isMap
  obtain ⟨w', hr, ho', hg⟩ := ho.update law Try.underlying68 (by simp [maxLen]; omega) (key h0 h1) (recR_mk r)
  refine ⟨w', hr, ⟨_, ho', fun j => ?_⟩, hg⟩
  by_cases e : j = i
  · subst e
    simp only [if_true]
    exact ⟨by rw [Maps.has_put_same (k := .int .i64 j) hm trivial]; rfl, by rw [Maps.atKey_put_same (k := .int .i64 j) hm trivial]; rfl⟩
  · have hne : (Lit.int .i64 j) ≠ (.int .i64 i) := fun q => e (by cases q; rfl)
    simp only [if_neg e]
    exact ⟨by rw [Maps.has_put_other hne]; exact (h2 j).1, by rw [Maps.atKey_put_other hne]; exact (h2 j).2⟩
theorem below_grown {B : Nat} {u : World} (h : Below B u w) (hg : w.grownBy w' (some b)) (hs : B ≤ w.heap.size) (hb : B ≤ b) : Below B u w' := h.grown hg hs (fun k e => by cases e; exact hb)
end Go.Proofs.Ytahloklmogkaeaa.MpA
