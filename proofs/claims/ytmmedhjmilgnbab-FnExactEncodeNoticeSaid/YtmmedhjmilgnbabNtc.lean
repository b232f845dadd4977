/- What this text proves: the contracts of the model's EncodeNotice and of the program's: the bytes of a notice. -/
import Derived.Test.YtmmedhjmilgnbabRcv
import Derived.Test.YtmmedhjmilgnbabCmd
import Derived.Deep.RegionHeld3
namespace Go.Proofs.Ytmmedhjmilgnbab
open Go.ChangeShapes Go.WideShapes Go.ChangeAt Go.RowKit
set_option linter.unusedVariables false

def bitI (p : Bool) : Int := if p = true then 1 else 0
theorem bitI_bd (p : Bool) : 0 ≤ bitI p ∧ bitI p ≤ 1 := by cases p <;> decide
/-- What EncodeNotice returns. -/
noncomputable def ntT (x : Int) (p q : Bool) : ByteArray := if 0 ≤ x ∧ x ≤ 255 then putS x 1 ++ putS (bitI p + 2 * bitI q) 1 else ⟨#[]⟩
theorem ntT_yes {x : Int} {p q : Bool} (h : 0 ≤ x ∧ x ≤ 255) : ntT x p q = putS x 1 ++ putS (bitI p + 2 * bitI q) 1 := by unfold ntT; rw [if_pos h]
theorem ntT_no {x : Int} {p q : Bool} (h : ¬ (0 ≤ x ∧ x ≤ 255)) : ntT x p q = ⟨#[]⟩ := by unfold ntT; rw [if_neg h]
theorem bit_spec (p : Bool) (w : World) :
    Calls Try.prog 21 #[.bool p] w fun e w' => e = .returned (.int .i64 (bitI p)) ∧ w = w' := by
  cases p with
  | true =>
    go_enter Try.func21, Try.ntmps21
    go_wp2
    go_ret
    exact ⟨rfl, rfl⟩
  | false =>
    go_enter Try.func21, Try.ntmps21
    go_wp2
    go_ret
    exact ⟨rfl, rfl⟩

set_option maxHeartbeats 2000000 in
theorem encN_spec (x : Int) (p q : Bool) (w : World) :
    Calls Try.prog 6 #[ntV x p q] w fun e w' => e = .returned (.string (ntT x p q)) ∧ Below w.heap.size w w' := by
  by_cases h1 : 0 ≤ x ∧ x ≤ 255
  · have H1 := Lib.hid (in_yes x 0 255 h1.1 h1.2)
    have HV := Lib.hid (ntT_yes (p := p) (q := q) h1)
    have zA := putS_four_le x 1
    have zB := putS_four_le (bitI p + 2 * bitI q) 1
    have FA := Lib.hid (fun W (hf : Fit w W w.heap.size (ntL x p q)) => (put_spec x 1 W).mono fun e w' h => (⟨h.1, hf.more h.2, (hf.more h.2).box.threeR⟩ : e = .returned (.string (putS x 1)) ∧ Fit w w' w.heap.size (ntL x p q) ∧ Cells3R w' w.heap.size (.int .i64 x) (.bool p) (.bool q)))
    have FB := Lib.hid (fun W (hf : Fit w W w.heap.size (ntL x p q)) => (bit_spec p W).mono fun e w' h => (⟨h.1, h.2 ▸ hf, h.2 ▸ hf.box.threeR⟩ : e = .returned (.int .i64 (bitI p)) ∧ Fit w w' w.heap.size (ntL x p q) ∧ Cells3R w' w.heap.size (.int .i64 x) (.bool p) (.bool q)))
    have FC := Lib.hid (fun W (hf : Fit w W w.heap.size (ntL x p q)) => (bit_spec q W).mono fun e w' h => (⟨h.1, h.2 ▸ hf, h.2 ▸ hf.box.threeR⟩ : e = .returned (.int .i64 (bitI q)) ∧ Fit w w' w.heap.size (ntL x p q) ∧ Cells3R w' w.heap.size (.int .i64 x) (.bool p) (.bool q)))
    have FD := Lib.hid (fun W (hf : Fit w W w.heap.size (ntL x p q)) => (put_spec (bitI p + 2 * bitI q) 1 W).mono fun e w' h => (⟨h.1, hf.more h.2, (hf.more h.2).box.threeR⟩ : e = .returned (.string (putS (bitI p + 2 * bitI q) 1)) ∧ Fit w w' w.heap.size (ntL x p q) ∧ Cells3R w' w.heap.size (.int .i64 x) (.bool p) (.bool q)))
    obtain ⟨p0, p1⟩ := bitI_bd p
    obtain ⟨q0, q1⟩ := bitI_bd q
    generalize putS x 1 = X at *
    generalize putS (bitI p + 2 * bitI q) 1 = Y at *
    generalize bitI p = P at *
    generalize bitI q = Q at *
    have b1 : ¬ 9223372036854775807 < X.size + Y.size := by omega
    have w1 : IntKind.i64.wrap (2 * Q) = 2 * Q := IntWalk.i64_in _ (by omega)
    have w2 : IntKind.i64.wrap (P + 2 * Q) = P + 2 * Q := IntWalk.i64_in _ (by omega)
    clear h1
    go_enter Try.func6, Try.ntmps6
    go_wp2_with fail
    refine (H1.out _).mono ?_
    rintro e w' ⟨rfl, rfl⟩
    have F1d := Lib.hid (Fit.made w (ntL x p q) 25).drew
    obtain ⟨k0, k1, k2⟩ := F1d.out.box.threeR
    go_wp2
    go_region_held3 (fun w' => w'.cell? ⟨w.heap.size, 0, none⟩ = some (.int .i64 x) ∧ w'.cell? ⟨w.heap.size, 1, none⟩ = some (.bool p) ∧ w'.cell? ⟨w.heap.size, 2, none⟩ = some (.bool q)) (first | exact ⟨k0, k1, k2⟩ | exact ⟨l0, l1, l2⟩ | exact ⟨m0, m1, m2⟩ | exact ⟨n0, n1, n2⟩ | exact ⟨p0', p1', p2'⟩)
      (first
        | (go_at_call 20; (with_reducible refine (FA.out _ F1d.out).mono ?_); rintro e w2 ⟨rfl, F2, l0, l1, l2⟩)
        | (go_at_call 21; (with_reducible refine (FB.out _ F2).mono ?_); rintro e w3 ⟨rfl, F3, m0, m1, m2⟩)
        | (go_at_call 21; (with_reducible refine (FC.out _ F3).mono ?_); rintro e w4 ⟨rfl, F4, n0, n1, n2⟩)
        | (go_at_call 20; (with_reducible refine (FD.out _ F4).mono ?_); rintro e w5 ⟨rfl, F5, p0', p1', p2'⟩))
    all_goals go_wp2
    all_goals go_ret
    all_goals exact ⟨by rw [HV.out]; rfl, F5.below⟩
  · have H1 := Lib.hid (in_no x 0 255 h1)
    have HV := Lib.hid (ntT_no (p := p) (q := q) h1)
    clear h1
    go_enter Try.func6, Try.ntmps6
    go_wp2_with fail
    refine (H1.out _).mono ?_
    rintro e w' ⟨rfl, rfl⟩
    go_wp2
    go_ret
    exact ⟨by rw [HV.out]; rfl, (Below.refl _ w).alloc (Nat.le_refl _) _⟩

set_option maxHeartbeats 2000000 in
theorem encN_impl (x : Int) (p q : Bool) (w : World) :
    Calls Try.prog 8 #[ntV x p q] w fun e w' => e = .returned (.string (ntT x p q)) ∧ Below w.heap.size w w' := by
  by_cases h1 : 0 ≤ x ∧ x ≤ 255
  · have H1 := Lib.hid (iq_yes x h1)
    have HV := Lib.hid (ntT_yes (p := p) (q := q) h1)
    have FA := Lib.hid (put_impl x 1)
    have FB := Lib.hid (put_impl (bitI p + 2 * bitI q) 1)
    have zA := putS_four_le x 1
    have zB := putS_four_le (bitI p + 2 * bitI q) 1
    have B0 := Fit.made w (ntL x p q) 25
    cases p <;> cases q
    all_goals
      simp only [bitI, if_true, Bool.false_eq_true, if_false, Int.mul_one, Int.mul_zero, Int.add_zero, Int.zero_add, Int.reduceAdd] at HV FB zB
      generalize putS x 1 = X at *
      generalize putS _ 1 = Y at HV FB zB
      have b1 : ¬ 9223372036854775807 < X.size + Y.size := by omega
      have F0 := Lib.hid B0
      clear h1 B0
      go_enter Try.func8, Try.ntmps8
      go_wp2_with fail
      refine (H1.out _).mono ?_
      rintro e w' ⟨rfl, rfl⟩
      go_wp2_with fail
      refine (FA.out _).mono ?_
      rintro e w1 ⟨rfl, hb1⟩
      have F1 := Lib.hid (F0.out.more hb1)
      clear hb1
      go_wp2_with fail
      refine (FB.out _).mono ?_
      rintro e w2 ⟨rfl, hb2⟩
      have F2 := Lib.hid (F1.out.more hb2)
      clear hb2
      go_wp2
      go_ret
      exact ⟨by rw [HV.out]; rfl, F2.out.below⟩
  · have H1 := Lib.hid (iq_no x h1)
    have HV := Lib.hid (ntT_no (p := p) (q := q) h1)
    clear h1
    go_enter Try.func8, Try.ntmps8
    go_wp2_with fail
    refine (H1.out _).mono ?_
    rintro e w' ⟨rfl, rfl⟩
    go_wp2
    go_ret
    exact ⟨by rw [HV.out]; rfl, (Below.refl _ w).alloc (Nat.le_refl _) _⟩
end Go.Proofs.Ytmmedhjmilgnbab
