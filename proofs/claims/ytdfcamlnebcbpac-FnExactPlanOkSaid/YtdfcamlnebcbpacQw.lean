/- What this text proves: a region that draws its order, whose callees may make memory but hand back one value in every world of a class: one walk serves every order. -/
import Derived.Test.YtdfcamlnebcbpacLaw
import Derived.BigQuiet
namespace Go.Proofs.Ytdfcamlnebcbpac
open Go.ChangeShapes Go.WideShapes Go.ChangeAt Go.RowKit
set_option linter.unusedVariables false

/-- A world of the class. -/
structure InW (C : World → Prop) where
  W : World
  ok : C W
theorem wp_region_inW {P : Program} (C : World → Prop) {id : Nat} {Q : Exit → Act → World → Prop} {a : Act} {W : World} {l : List Oper} (hm : P.follows .mixedOrders = true) (hB : Region.lexB .any l.toArray = true) (hC : C W.drew)
    (h : wpQuiet P l.toArray (fun w' => ∃ p : InW C, w' = p.W) (fun a' => ∀ w', (∃ p : InW C, w' = p.W) → Q .normal a' w') l a) : (Code.region id l.toArray true).wp P Q a W :=
  wp_region_quiet (C := fun w' => ∃ p : InW C, w' = p.W) hm hB ⟨⟨_, hC⟩, rfl⟩ (by simpa using h)
theorem calls_inW {P : Program} {C : World → Prop} {f : FuncId} {args : Array Value} {W : World} {v : Value}
    (h : Calls P f args W fun e w' => e = .returned v ∧ C w') : Calls P f args W fun e w'' => e = .returned v ∧ ∃ p : InW C, w'' = p.W :=
  h.mono fun _ w' ⟨he, hc⟩ => ⟨he, ⟨w', hc⟩, rfl⟩
end Go.Proofs.Ytdfcamlnebcbpac
