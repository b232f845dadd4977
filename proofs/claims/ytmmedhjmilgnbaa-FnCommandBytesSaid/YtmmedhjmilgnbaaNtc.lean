/- What this text proves: the contracts of the model's EncodeNotice and of the program's: the bytes of a notice. -/
import Derived.Test.YtmmedhjmilgnbaaRcv
import Derived.Test.YtmmedhjmilgnbaaCmd
import Derived.Deep.RegionHeld3
namespace Go.Proofs.Ytmmedhjmilgnbaa
open Go.ChangeShapes Go.WideShapes Go.ChangeAt Go.RowKit
set_option linter.unusedVariables false

def bitI (p : Bool) : Int := if p = true then 1 else 0
theorem bitI_bd (p : Bool) : 0 ≤ bitI p ∧ bitI p ≤ 1 := by cases p <;> decide
/-- What EncodeNotice returns. -/
noncomputable def ntT (x : Int) (p q : Bool) : ByteArray := if 0 ≤ x ∧ x ≤ 255 then putS x 1 ++ putS (bitI p + 2 * bitI q) 1 else ⟨#[]⟩
theorem ntT_yes {x : Int} {p q : Bool} (h : 0 ≤ x ∧ x ≤ 255) : ntT x p q = putS x 1 ++ putS (bitI p + 2 * bitI q) 1 := by unfold ntT; rw [if_pos h]
theorem ntT_no {x : Int} {p q : Bool} (h : ¬ (0 ≤ x ∧ x ≤ 255)) : ntT x p q = ⟨#[]⟩ := by unfold ntT; rw [if_neg h]
set_option maxHeartbeats 2000000 in
theorem encN_impl (x : Int) (p q : Bool) (w : World) :
    Calls Try.prog 19 #[ntV x p q] w fun e w' => e = .returned (.string (ntT x p q)) ∧ Below w.heap.size w w' := by
  by_cases h1 : 0 ≤ x ∧ x ≤ 255
  · have H1 := Lib.hid (iq_yes x h1)
    have HV := Lib.hid (ntT_yes (p := p) (q := q) h1)
    have FA := Lib.hid (put_impl x 1)
    have FB := Lib.hid (put_impl (bitI p + 2 * bitI q) 1)
    have zA := putS_four_le x 1
    have zB := putS_four_le (bitI p + 2 * bitI q) 1
    have B0 := Fit.made w (ntL x p q) 31
    cases p <;> cases q
    all_goals
      simp only [bitI, if_true, Bool.false_eq_true, if_false, Int.mul_one, Int.mul_zero, Int.add_zero, Int.zero_add, Int.reduceAdd] at HV FB zB
      generalize putS x 1 = X at *
      generalize putS _ 1 = Y at HV FB zB
      have b1 : ¬ 9223372036854775807 < X.size + Y.size := by omega
      have F0 := Lib.hid B0
      clear h1 B0
      go_enter Try.func19, Try.ntmps19
      go_wp2_with fail
      refine (H1.out _).mono ?_
      rintro e w' ⟨rfl, rfl⟩
      go_wp2_with fail
      refine (FA.out _).mono ?_
      rintro e w1 ⟨rfl, hb1⟩
      have F1 := Lib.hid (F0.out.more hb1)
      clear hb1
      go_wp2_with fail
      refine (FB.out _).mono ?_
      rintro e w2 ⟨rfl, hb2⟩
      have F2 := Lib.hid (F1.out.more hb2)
      clear hb2
      go_wp2
      go_ret
      exact ⟨by rw [HV.out]; rfl, F2.out.below⟩
  · have H1 := Lib.hid (iq_no x h1)
    have HV := Lib.hid (ntT_no (p := p) (q := q) h1)
    clear h1
    go_enter Try.func19, Try.ntmps19
    go_wp2_with fail
    refine (H1.out _).mono ?_
    rintro e w' ⟨rfl, rfl⟩
    go_wp2
    go_ret
    exact ⟨by rw [HV.out]; rfl, (Below.refl _ w).alloc (Nat.le_refl _) _⟩
end Go.Proofs.Ytmmedhjmilgnbaa
