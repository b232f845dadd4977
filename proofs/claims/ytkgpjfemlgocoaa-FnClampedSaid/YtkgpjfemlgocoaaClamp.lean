/- What this text proves: the contract of Clamp: program and model both return, for every three numbers, the number itself if it is in the range, and else the end of the range that is nearer to it, the lower end if the range is empty. -/
import Derived.Test.YtkgpjfemlgocoaaLaw
import Derived.WalkKit
import Derived.Lib.Hide
import Derived.WalkLawsBesides
namespace Go.Proofs.Ytkgpjfemlgocoaa
open Go.ChangeShapes Go.WideShapes Go.ChangeAt Go.RowKit
set_option linter.unusedVariables false

theorem ret_c {k : IntKind} {a b : Int} (h : a = b) : Ending.returned (.int k a) = .returned (.int k b) := by rw [h]
def clampI (n a b : Int) : Int := if b < a ∨ n < a then a else if b < n then b else n

theorem clamp_spec (n a b : Int) (w : World) :
    Calls Try.prog 8 #[.int .i64 n, .int .i64 a, .int .i64 b] w fun e w' => e = .returned (.int .i64 (clampI n a b)) ∧ w = w' := by
  by_cases h1 : b < a
  · have hr := Lib.hid (show a = clampI n a b by unfold clampI; rw [if_pos (.inl h1)])
    have hd : decide (b < a) = true := by simp; omega
    clear h1
    go_enter Try.func8, Try.ntmps8
    go_wp2
    go_ret
    exact ⟨ret_c hr.out, rfl⟩
  · have hd : decide (b < a) = false := by simp; omega
    by_cases h2 : n < a
    · have hr := Lib.hid (show a = clampI n a b by unfold clampI; rw [if_pos (.inr h2)])
      have hd2 : decide (n < a) = true := by simp; omega
      clear h1 h2
      go_enter Try.func8, Try.ntmps8
      go_wp2
      go_ret
      exact ⟨ret_c hr.out, rfl⟩
    · have hd2 : decide (n < a) = false := by simp; omega
      by_cases h3 : b < n
      · have hr := Lib.hid (show b = clampI n a b by unfold clampI; rw [if_neg (by omega), if_pos h3])
        have hd3 : decide (b < n) = true := by simp; omega
        clear h1 h2 h3
        go_enter Try.func8, Try.ntmps8
        go_wp2
        go_ret
        exact ⟨ret_c hr.out, rfl⟩
      · have hr := Lib.hid (show n = clampI n a b by unfold clampI; rw [if_neg (by omega), if_neg h3])
        have hd3 : decide (b < n) = false := by simp; omega
        clear h1 h2 h3
        go_enter Try.func8, Try.ntmps8
        go_wp2
        go_ret
        exact ⟨ret_c hr.out, rfl⟩

theorem clamp_impl (n a b : Int) (w : World) :
    Calls Try.prog 9 #[.int .i64 n, .int .i64 a, .int .i64 b] w fun e w' => e = .returned (.int .i64 (clampI n a b)) ∧ w = w' := by
  go_enter Try.func9, Try.ntmps9
  go_wp2
  all_goals
    go_ret
    exact ⟨ret_c (by unfold clampI; repeat' split
                     all_goals omega), rfl⟩

theorem law_clamp (n a b : Int) (_ : -9223372036854775808 ≤ n ∧ n ≤ 9223372036854775807) (_ : -9223372036854775808 ≤ a ∧ a ≤ 9223372036854775807) (_ : -9223372036854775808 ≤ b ∧ b ≤ 9223372036854775807) (w : World) :
    Calls Try.prog 3 #[.int .i64 n, .int .i64 a, .int .i64 b] w fun e w' => e = .returned (.bool true) ∧ Below w.heap.size w w' := by
  go_enter Try.func3, Try.ntmps3
  go_wp2_with (first | (go_at_call 8; refine (clamp_spec _ _ _ _).mono ?_; rintro e w' ⟨rfl, rfl⟩) | (go_at_call 9; refine (clamp_impl _ _ _ _).mono ?_; rintro e w' ⟨rfl, rfl⟩))
  go_ret
  exact ⟨rfl, Below.refl _ _⟩
end Go.Proofs.Ytkgpjfemlgocoaa
