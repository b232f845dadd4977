/- What this text proves: the parts Pkt, IPk of the proof, each under its own words. -/
import Derived.Test.YtckofkdeedbbgaaV00
import Derived.Test.YtckofkdeedbbgaaV01
/- What this text proves: the contracts of the laws' own functions over packets, and of the model's PacketOk. -/
namespace Go.Proofs.Ytckofkdeedbbgaa
open Go.ChangeShapes Go.WideShapes Go.ChangeAt Go.RowKit
set_option linter.unusedVariables false

/-- A packet as a value. -/
abbrev pkV (a q : Int) (d : ByteArray) : Value := .agg #[.int .i64 a, .int .i64 q, .string d]
abbrev pkL (a q : Int) (d : ByteArray) : List Value := [.int .i64 a, .int .i64 q, .string d]
def PkOk (a q : Int) (d : ByteArray) : Prop := (0 ≤ a ∧ a ≤ 15) ∧ (0 ≤ q ∧ q ≤ 65535) ∧ d.size ≤ 40
instance (a q : Int) (d : ByteArray) : Decidable (PkOk a q d) := by unfold PkOk; infer_instance

theorem in_anyP (a b c : Int) (w : World) :
    Calls Try.prog 148 #[.int .i64 a, .int .i64 b, .int .i64 c] w fun e w' => e = .returned (.bool (decide (b ≤ a ∧ a ≤ c))) ∧ w = w' := by
  by_cases h : b ≤ a ∧ a ≤ c
  · rw [decide_eq_true h]
    exact in_yes a b c h.1 h.2 w
  · rw [decide_eq_false h]
    exact in_no a b c h w

end Go.Proofs.Ytckofkdeedbbgaa
/- What this text proves: the contracts of isWithin and of the program's PacketOk. -/
namespace Go.Proofs.Ytckofkdeedbbgaa
open Go.ChangeShapes Go.WideShapes Go.ChangeAt Go.RowKit
set_option linter.unusedVariables false

theorem iw_yes (a b c : Int) (h1 : b ≤ a) (h2 : a ≤ c) (w : World) :
    Calls Try.prog 60 #[.int .i64 a, .int .i64 b, .int .i64 c] w fun e w' => e = .returned (.bool true) ∧ w = w' := by
  go_enter Try.func60, Try.ntmps60
  go_wp2
  go_ret
  exact ⟨rfl, rfl⟩
theorem iw_no (a b c : Int) (h : ¬ (b ≤ a ∧ a ≤ c)) (w : World) :
    Calls Try.prog 60 #[.int .i64 a, .int .i64 b, .int .i64 c] w fun e w' => e = .returned (.bool false) ∧ w = w' := by
  by_cases h1 : b ≤ a
  · have hd : decide (a ≤ c) = false := by simp; omega
    clear h
    go_enter Try.func60, Try.ntmps60
    go_wp2
    go_ret
    exact ⟨rfl, rfl⟩
  · have h2 : a < b := by omega
    clear h h1
    go_enter Try.func60, Try.ntmps60
    go_wp2
    go_ret
    exact ⟨rfl, rfl⟩
end Go.Proofs.Ytckofkdeedbbgaa
