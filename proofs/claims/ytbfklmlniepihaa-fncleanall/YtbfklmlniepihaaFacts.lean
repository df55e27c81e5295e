/-
  What the frames of this seat's rows ask of the program alone: each a closed fact by itself. Nothing here walks the program.
-/
import Derived.Test.YtbfklmlniepihaaRows
import Derived.WalkKit
import Derived.ProofKit
import Derived.OpenShut
namespace Go.Proofs.Ytbfklmlniepihaa.Facts
theorem and_t {a b : Bool} (ha : a = true) (hb : b = true) : (a && b) = true := by rw [ha, hb]; rfl
theorem beq_t {α : Type} [BEq α] [ReflBEq α] {a b : α} (h : a = b) : (b == a) = true := by rw [h]; exact beq_self_eq_true b
theorem order : Try.prog.initOrder = "harness 826bed036f81b4cb5ff358c851a359a515b4da57e6fdd702568349d80254ae54 cut at loop.example/buttery/laws.FnCleanAll" := by kernel_rfl
set_option maxRecDepth 100000 in
theorem signs : Try.prog.initOrder.toList = [Char.ofNat 104, Char.ofNat 97, Char.ofNat 114, Char.ofNat 110, Char.ofNat 101, Char.ofNat 115, Char.ofNat 115, Char.ofNat 32, Char.ofNat 56, Char.ofNat 50, Char.ofNat 54, Char.ofNat 98, Char.ofNat 101, Char.ofNat 100, Char.ofNat 48, Char.ofNat 51, Char.ofNat 54, Char.ofNat 102, Char.ofNat 56, Char.ofNat 49, Char.ofNat 98, Char.ofNat 52, Char.ofNat 99, Char.ofNat 98, Char.ofNat 53, Char.ofNat 102, Char.ofNat 102, Char.ofNat 51, Char.ofNat 53, Char.ofNat 56, Char.ofNat 99, Char.ofNat 56, Char.ofNat 53, Char.ofNat 49, Char.ofNat 97, Char.ofNat 51, Char.ofNat 53, Char.ofNat 57, Char.ofNat 97, Char.ofNat 53, Char.ofNat 49, Char.ofNat 53, Char.ofNat 98, Char.ofNat 52, Char.ofNat 100, Char.ofNat 97, Char.ofNat 53, Char.ofNat 55, Char.ofNat 101, Char.ofNat 54, Char.ofNat 102, Char.ofNat 100, Char.ofNat 100, Char.ofNat 55, Char.ofNat 48, Char.ofNat 50, Char.ofNat 53, Char.ofNat 54, Char.ofNat 56, Char.ofNat 51, Char.ofNat 52, Char.ofNat 57, Char.ofNat 100, Char.ofNat 56, Char.ofNat 48, Char.ofNat 50, Char.ofNat 53, Char.ofNat 52, Char.ofNat 97, Char.ofNat 101, Char.ofNat 53, Char.ofNat 52, Char.ofNat 32, Char.ofNat 99, Char.ofNat 117, Char.ofNat 116, Char.ofNat 32, Char.ofNat 97, Char.ofNat 116, Char.ofNat 32, Char.ofNat 108, Char.ofNat 111, Char.ofNat 111, Char.ofNat 112, Char.ofNat 46, Char.ofNat 101, Char.ofNat 120, Char.ofNat 97, Char.ofNat 109, Char.ofNat 112, Char.ofNat 108, Char.ofNat 101, Char.ofNat 47, Char.ofNat 98, Char.ofNat 117, Char.ofNat 116, Char.ofNat 116, Char.ofNat 101, Char.ofNat 114, Char.ofNat 121, Char.ofNat 47, Char.ofNat 108, Char.ofNat 97, Char.ofNat 119, Char.ofNat 115, Char.ofNat 46, Char.ofNat 70, Char.ofNat 110, Char.ofNat 67, Char.ofNat 108, Char.ofNat 101, Char.ofNat 97, Char.ofNat 110, Char.ofNat 65, Char.ofNat 108, Char.ofNat 108] := by
  rw [order]
  exact String.toList_ofList
theorem word : ∀ (w : List Char) (r : List Char), (∀ c ∈ w, c ≠ Char.ofNat 32) → wordsSigns (w ++ Char.ofNat 32 :: r) = w :: wordsSigns r
  | [], r, _ => rfl
  | c :: w, r, h => by
    have hc : c ≠ Char.ofNat 32 := h c (by simp)
    have ih := word w r fun x hx => h x (by simp [hx])
    show wordsSigns (c :: (w ++ Char.ofNat 32 :: r)) = _
    rw [wordsSigns, ih]
    exact hc
theorem cutL : "cut".toList = [Char.ofNat 99, Char.ofNat 117, Char.ofNat 116] := by kernel_rfl
theorem behind (h s : List Char) (r : List (List Char)) (hh : ((h == "harness".toList || h == "ownmain".toList) && isSumSigns s) = true) : behindMainWord (h :: s :: r) = r := by
  show (if ((h == "harness".toList || h == "ownmain".toList) && isSumSigns s) = true then r else h :: s :: r) = r
  rw [if_pos hh]
set_option maxRecDepth 100000 in
theorem words : ∃ rest, behindMainWord (wordsSigns Try.prog.initOrder.toList) = "cut".toList :: rest := by
  rw [signs]
  refine ⟨wordsSigns [Char.ofNat 97, Char.ofNat 116, Char.ofNat 32, Char.ofNat 108, Char.ofNat 111, Char.ofNat 111, Char.ofNat 112, Char.ofNat 46, Char.ofNat 101, Char.ofNat 120, Char.ofNat 97, Char.ofNat 109, Char.ofNat 112, Char.ofNat 108, Char.ofNat 101, Char.ofNat 47, Char.ofNat 98, Char.ofNat 117, Char.ofNat 116, Char.ofNat 116, Char.ofNat 101, Char.ofNat 114, Char.ofNat 121, Char.ofNat 47, Char.ofNat 108, Char.ofNat 97, Char.ofNat 119, Char.ofNat 115, Char.ofNat 46, Char.ofNat 70, Char.ofNat 110, Char.ofNat 67, Char.ofNat 108, Char.ofNat 101, Char.ofNat 97, Char.ofNat 110, Char.ofNat 65, Char.ofNat 108, Char.ofNat 108], ?_⟩
  have e : [Char.ofNat 104, Char.ofNat 97, Char.ofNat 114, Char.ofNat 110, Char.ofNat 101, Char.ofNat 115, Char.ofNat 115, Char.ofNat 32, Char.ofNat 56, Char.ofNat 50, Char.ofNat 54, Char.ofNat 98, Char.ofNat 101, Char.ofNat 100, Char.ofNat 48, Char.ofNat 51, Char.ofNat 54, Char.ofNat 102, Char.ofNat 56, Char.ofNat 49, Char.ofNat 98, Char.ofNat 52, Char.ofNat 99, Char.ofNat 98, Char.ofNat 53, Char.ofNat 102, Char.ofNat 102, Char.ofNat 51, Char.ofNat 53, Char.ofNat 56, Char.ofNat 99, Char.ofNat 56, Char.ofNat 53, Char.ofNat 49, Char.ofNat 97, Char.ofNat 51, Char.ofNat 53, Char.ofNat 57, Char.ofNat 97, Char.ofNat 53, Char.ofNat 49, Char.ofNat 53, Char.ofNat 98, Char.ofNat 52, Char.ofNat 100, Char.ofNat 97, Char.ofNat 53, Char.ofNat 55, Char.ofNat 101, Char.ofNat 54, Char.ofNat 102, Char.ofNat 100, Char.ofNat 100, Char.ofNat 55, Char.ofNat 48, Char.ofNat 50, Char.ofNat 53, Char.ofNat 54, Char.ofNat 56, Char.ofNat 51, Char.ofNat 52, Char.ofNat 57, Char.ofNat 100, Char.ofNat 56, Char.ofNat 48, Char.ofNat 50, Char.ofNat 53, Char.ofNat 52, Char.ofNat 97, Char.ofNat 101, Char.ofNat 53, Char.ofNat 52, Char.ofNat 32, Char.ofNat 99, Char.ofNat 117, Char.ofNat 116, Char.ofNat 32, Char.ofNat 97, Char.ofNat 116, Char.ofNat 32, Char.ofNat 108, Char.ofNat 111, Char.ofNat 111, Char.ofNat 112, Char.ofNat 46, Char.ofNat 101, Char.ofNat 120, Char.ofNat 97, Char.ofNat 109, Char.ofNat 112, Char.ofNat 108, Char.ofNat 101, Char.ofNat 47, Char.ofNat 98, Char.ofNat 117, Char.ofNat 116, Char.ofNat 116, Char.ofNat 101, Char.ofNat 114, Char.ofNat 121, Char.ofNat 47, Char.ofNat 108, Char.ofNat 97, Char.ofNat 119, Char.ofNat 115, Char.ofNat 46, Char.ofNat 70, Char.ofNat 110, Char.ofNat 67, Char.ofNat 108, Char.ofNat 101, Char.ofNat 97, Char.ofNat 110, Char.ofNat 65, Char.ofNat 108, Char.ofNat 108] = [Char.ofNat 104, Char.ofNat 97, Char.ofNat 114, Char.ofNat 110, Char.ofNat 101, Char.ofNat 115, Char.ofNat 115] ++ Char.ofNat 32 :: ([Char.ofNat 56, Char.ofNat 50, Char.ofNat 54, Char.ofNat 98, Char.ofNat 101, Char.ofNat 100, Char.ofNat 48, Char.ofNat 51, Char.ofNat 54, Char.ofNat 102, Char.ofNat 56, Char.ofNat 49, Char.ofNat 98, Char.ofNat 52, Char.ofNat 99, Char.ofNat 98, Char.ofNat 53, Char.ofNat 102, Char.ofNat 102, Char.ofNat 51, Char.ofNat 53, Char.ofNat 56, Char.ofNat 99, Char.ofNat 56, Char.ofNat 53, Char.ofNat 49, Char.ofNat 97, Char.ofNat 51, Char.ofNat 53, Char.ofNat 57, Char.ofNat 97, Char.ofNat 53, Char.ofNat 49, Char.ofNat 53, Char.ofNat 98, Char.ofNat 52, Char.ofNat 100, Char.ofNat 97, Char.ofNat 53, Char.ofNat 55, Char.ofNat 101, Char.ofNat 54, Char.ofNat 102, Char.ofNat 100, Char.ofNat 100, Char.ofNat 55, Char.ofNat 48, Char.ofNat 50, Char.ofNat 53, Char.ofNat 54, Char.ofNat 56, Char.ofNat 51, Char.ofNat 52, Char.ofNat 57, Char.ofNat 100, Char.ofNat 56, Char.ofNat 48, Char.ofNat 50, Char.ofNat 53, Char.ofNat 52, Char.ofNat 97, Char.ofNat 101, Char.ofNat 53, Char.ofNat 52] ++ Char.ofNat 32 :: ([Char.ofNat 99, Char.ofNat 117, Char.ofNat 116] ++ Char.ofNat 32 :: [Char.ofNat 97, Char.ofNat 116, Char.ofNat 32, Char.ofNat 108, Char.ofNat 111, Char.ofNat 111, Char.ofNat 112, Char.ofNat 46, Char.ofNat 101, Char.ofNat 120, Char.ofNat 97, Char.ofNat 109, Char.ofNat 112, Char.ofNat 108, Char.ofNat 101, Char.ofNat 47, Char.ofNat 98, Char.ofNat 117, Char.ofNat 116, Char.ofNat 116, Char.ofNat 101, Char.ofNat 114, Char.ofNat 121, Char.ofNat 47, Char.ofNat 108, Char.ofNat 97, Char.ofNat 119, Char.ofNat 115, Char.ofNat 46, Char.ofNat 70, Char.ofNat 110, Char.ofNat 67, Char.ofNat 108, Char.ofNat 101, Char.ofNat 97, Char.ofNat 110, Char.ofNat 65, Char.ofNat 108, Char.ofNat 108])) := rfl
  rw [e, word _ _ (by decide), word _ _ (by decide), word _ _ (by decide)]
  rw [cutL]
  exact behind _ _ _ (by kernel_rfl)
theorem made_of (P : Program) (rest : List (List Char)) (h : behindMainWord (wordsSigns P.initOrder.toList) = "cut".toList :: rest) : P.make = some .cut := by
  unfold Program.make; rw [h]; kernel_rfl
theorem enters_of (P : Program) (rest : List (List Char)) (h : behindMainWord (wordsSigns P.initOrder.toList) = "cut".toList :: rest) (h1 : P.laysLater = false) (h2 : P.bearsReflect = false) (h3 : P.doorFits [] = true) : P.mayEnter = true := by
  have e1 : (stripLifts liftWords ("cut".toList :: rest)).1 = [] := by kernel_rfl
  have e2 : (stripLifts liftWords ("cut".toList :: rest)).2 = "cut".toList :: rest := by kernel_rfl
  have e3 : (some "cut".toList == some "cut".toList) = true := by kernel_rfl
  unfold Program.mayEnter; rw [h]
  simp only [e1, e2, List.head?_cons, h1, h2, h3, e3, List.contains_nil, Bool.not_false, Bool.or_true, Bool.and_true]
theorem lifts_of (P : Program) (rest : List (List Char)) (h : behindMainWord (wordsSigns P.initOrder.toList) = "cut".toList :: rest) : P.liftsFinal = false := by
  unfold Program.liftsFinal Program.headLifts; rw [h]; kernel_rfl
theorem later : Try.prog.laysLater = false := by kernel_rfl
theorem reflect : Try.prog.bearsReflect = false := by kernel_rfl
theorem door : Try.prog.doorFits [] = true := by kernel_rfl
theorem made : Try.prog.make = some .cut := by obtain ⟨rest, h⟩ := words; exact made_of _ rest h
theorem lifts : Try.prog.liftsFinal = false := by obtain ⟨rest, h⟩ := words; exact lifts_of _ rest h
theorem enters : Try.prog.mayEnter = true := by obtain ⟨rest, h⟩ := words; exact enters_of _ rest h later reflect door
theorem heard : Try.prog.stopsHeard = true := by kernel_rfl
theorem keys : Try.prog.plainKeys = true := by kernel_rfl
theorem laidOut : laidOutB Try.prog = true := by kernel_rfl
theorem rowed : mapsRowed Try.prog = true := by kernel_rfl
theorem own : ownKnob Try.prog.godebug = none := by kernel_rfl
end Go.Proofs.Ytbfklmlniepihaa.Facts
