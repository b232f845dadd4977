/- What this text proves: the contracts of the model's and the program's OrbitOk. -/
import Derived.Test.YtdfcamlnebcbpacOrbM
import Derived.Test.YtdfcamlnebcbpacEl8
import Derived.Test.YtdfcamlnebcbpacDrf
import Derived.IntWalk
namespace Go.Proofs.Ytdfcamlnebcbpac
open Go.ChangeShapes Go.WideShapes Go.ChangeAt Go.RowKit
set_option linter.unusedVariables false

theorem ob_bool (p s l : Int) : decide (OrbOk p s l) = (decide (1 ≤ p ∧ p ≤ 1000) && (decide (0 ≤ s ∧ s ≤ p - 1) && decide (1 ≤ l ∧ l ≤ p))) := by
  rw [Bool.eq_iff_iff]; simp only [Bool.and_eq_true, decide_eq_true_iff]; exact Iff.rfl
theorem ob_spec (p s l : Int) (w : World) :
    Calls Try.prog 39 #[obV p s l] w fun e w' => e = .returned (.bool (decide (OrbOk p s l))) ∧ Below w.heap.size w w' := by
  have HO := Lib.hid (ob_bool p s l)
  have H1 := Lib.hid (in_anyP p 1 1000)
  have H2 := Lib.hid (in_anyP s 0 (p - 1))
  have H3 := Lib.hid (in_anyP l 1 p)
  by_cases h1 : 1 ≤ p ∧ p ≤ 1000
  · have w1 : IntKind.i64.wrap (p - 1) = p - 1 := IntWalk.i64_in _ (by omega)
    have w2 : wrap64 (p - 1) = p - 1 := by unfold wrap64; omega
    rw [decide_eq_true h1] at HO H1
    clear h1
    generalize decide (0 ≤ s ∧ s ≤ p - 1) = y at *
    generalize decide (1 ≤ l ∧ l ≤ p) = z at *
    cases y with
    | false =>
      go_enter Try.func39, Try.ntmps39
      go_wp2_with fail
      refine (H1.out _).mono ?_
      rintro e w' ⟨rfl, rfl⟩
      go_wp2_with fail
      refine (H2.out _).mono ?_
      rintro e w' ⟨rfl, rfl⟩
      go_wp2
      go_ret
      exact ⟨by rw [HO.out]; rfl, (Below.refl _ w).alloc (Nat.le_refl _) _⟩
    | true =>
      go_enter Try.func39, Try.ntmps39
      go_wp2_with fail
      refine (H1.out _).mono ?_
      rintro e w' ⟨rfl, rfl⟩
      go_wp2_with fail
      refine (H2.out _).mono ?_
      rintro e w' ⟨rfl, rfl⟩
      go_wp2_with fail
      refine (H3.out _).mono ?_
      rintro e w' ⟨rfl, rfl⟩
      go_wp2
      go_ret
      exact ⟨by rw [HO.out]; rfl, (Below.refl _ w).alloc (Nat.le_refl _) _⟩
  · rw [decide_eq_false h1] at HO H1
    clear h1
    go_enter Try.func39, Try.ntmps39
    go_wp2_with fail
    refine (H1.out _).mono ?_
    rintro e w' ⟨rfl, rfl⟩
    go_wp2
    go_ret
    exact ⟨by rw [HO.out]; rfl, (Below.refl _ w).alloc (Nat.le_refl _) _⟩
theorem ob_impl (p s l : Int) (w : World) :
    Calls Try.prog 43 #[obV p s l] w fun e w' => e = .returned (.bool (decide (OrbOk p s l))) ∧ Below w.heap.size w w' := by
  have HO := Lib.hid (ob_bool p s l)
  have H1 := Lib.hid (iw_anyD p 1 1000)
  have H2 := Lib.hid (iw_anyD s 0 (p - 1))
  have H3 := Lib.hid (iw_anyD l 1 p)
  by_cases h1 : 1 ≤ p ∧ p ≤ 1000
  · have w1 : IntKind.i64.wrap (p - 1) = p - 1 := IntWalk.i64_in _ (by omega)
    have w2 : wrap64 (p - 1) = p - 1 := by unfold wrap64; omega
    rw [decide_eq_true h1] at HO H1
    clear h1
    generalize decide (0 ≤ s ∧ s ≤ p - 1) = y at *
    generalize decide (1 ≤ l ∧ l ≤ p) = z at *
    cases y with
    | false =>
      go_enter Try.func43, Try.ntmps43
      go_wp2_with fail
      refine (H1.out _).mono ?_
      rintro e w' ⟨rfl, rfl⟩
      go_wp2_with fail
      refine (H2.out _).mono ?_
      rintro e w' ⟨rfl, rfl⟩
      go_wp2
      go_ret
      exact ⟨by rw [HO.out]; rfl, (Below.refl _ w).alloc (Nat.le_refl _) _⟩
    | true =>
      go_enter Try.func43, Try.ntmps43
      go_wp2_with fail
      refine (H1.out _).mono ?_
      rintro e w' ⟨rfl, rfl⟩
      go_wp2_with fail
      refine (H2.out _).mono ?_
      rintro e w' ⟨rfl, rfl⟩
      go_wp2_with fail
      refine (H3.out _).mono ?_
      rintro e w' ⟨rfl, rfl⟩
      go_wp2
      go_ret
      exact ⟨by rw [HO.out]; rfl, (Below.refl _ w).alloc (Nat.le_refl _) _⟩
  · rw [decide_eq_false h1] at HO H1
    clear h1
    go_enter Try.func43, Try.ntmps43
    go_wp2_with fail
    refine (H1.out _).mono ?_
    rintro e w' ⟨rfl, rfl⟩
    go_wp2
    go_ret
    exact ⟨by rw [HO.out]; rfl, (Below.refl _ w).alloc (Nat.le_refl _) _⟩
end Go.Proofs.Ytdfcamlnebcbpac
