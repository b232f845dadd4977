/- What this text proves: the contracts of the model's and the program's EncodeOrder. -/
import Derived.Test.YtebfefkknaalpaaOrd
import Derived.Test.YtebfefkknaalpaaPktE
import Derived.Test.YtebfefkknaalpaaPutS
import Derived.Laws.Concat
import Derived.Deep.RegionHeld3
namespace Go.Proofs.Ytebfefkknaalpaa
open Go.ChangeShapes Go.WideShapes Go.ChangeAt Go.RowKit
set_option linter.unusedVariables false


/-- What EncodeOrder returns. -/
noncomputable def orT (k t a b : Int) : ByteArray := if OrOk k t a b then putS k 1 ++ putS t 3 ++ putS a 1 ++ putS b 2 else ⟨#[]⟩

set_option maxHeartbeats 2000000 in
theorem encO_spec (k t a b : Int) (w : World) :
    Calls Try.prog 38 #[orV k t a b] w fun e w' => e = .returned (.string (orT k t a b)) ∧ Below w.heap.size w w' := by
  have H1 := Lib.hid (or_spec k t a b)
  by_cases hk : OrOk k t a b
  · rw [decide_eq_true hk] at H1
    have HV := Lib.hid (show orT k t a b = putS k 1 ++ putS t 3 ++ putS a 1 ++ putS b 2 by unfold orT; rw [if_pos hk])
    have FA := Lib.hid (fun W (hf : Fit w W w.heap.size (orL k t a b)) => (put_spec k 1 W).mono fun e w' h => (⟨h.1, hf.more h.2, (hf.more h.2).box.four4⟩ : e = .returned (.string (putS k 1)) ∧ Fit w w' w.heap.size (orL k t a b) ∧ Cells4O w' w.heap.size (.int .i64 k) (.int .i64 t) (.int .i64 a) (.int .i64 b)))
    have FB := Lib.hid (fun W (hf : Fit w W w.heap.size (orL k t a b)) => (put_spec t 3 W).mono fun e w' h => (⟨h.1, hf.more h.2, (hf.more h.2).box.four4⟩ : e = .returned (.string (putS t 3)) ∧ Fit w w' w.heap.size (orL k t a b) ∧ Cells4O w' w.heap.size (.int .i64 k) (.int .i64 t) (.int .i64 a) (.int .i64 b)))
    have FC := Lib.hid (fun W (hf : Fit w W w.heap.size (orL k t a b)) => (put_spec a 1 W).mono fun e w' h => (⟨h.1, hf.more h.2, (hf.more h.2).box.four4⟩ : e = .returned (.string (putS a 1)) ∧ Fit w w' w.heap.size (orL k t a b) ∧ Cells4O w' w.heap.size (.int .i64 k) (.int .i64 t) (.int .i64 a) (.int .i64 b)))
    have FD := Lib.hid (fun W (hf : Fit w W w.heap.size (orL k t a b)) => (put_spec b 2 W).mono fun e w' h => (⟨h.1, hf.more h.2, (hf.more h.2).box.four4⟩ : e = .returned (.string (putS b 2)) ∧ Fit w w' w.heap.size (orL k t a b) ∧ Cells4O w' w.heap.size (.int .i64 k) (.int .i64 t) (.int .i64 a) (.int .i64 b)))
    have zA := putS_four_le k 1
    have zB := putS_four_le t 3
    have zC := putS_four_le a 1
    have zD := putS_four_le b 2
    generalize putS k 1 = A at *
    generalize putS t 3 = B at *
    generalize putS a 1 = C at *
    generalize putS b 2 = D at *
    have b1 : ¬ 9223372036854775807 < A.size + B.size := by omega
    have b2 : ¬ 9223372036854775807 < A.size + B.size + C.size := by omega
    have b3 : ¬ 9223372036854775807 < A.size + B.size + C.size + D.size := by omega
    go_enter Try.func38, Try.ntmps38
    go_wp2_with fail
    refine (H1.out _).mono ?_
    rintro e w1 ⟨rfl, hb1⟩
    have F1 := Lib.hid ((Fit.made w (orL k t a b) _).more hb1)
    obtain ⟨k0, k1, k2, k3⟩ := F1.out.drew.box.four4
    have F1d := Lib.hid F1.out.drew
    clear hb1
    go_wp2
    go_region_held3 (fun w' => w'.cell? ⟨w.heap.size, 0, none⟩ = some (.int .i64 k) ∧ w'.cell? ⟨w.heap.size, 1, none⟩ = some (.int .i64 t) ∧ w'.cell? ⟨w.heap.size, 2, none⟩ = some (.int .i64 a) ∧ w'.cell? ⟨w.heap.size, 3, none⟩ = some (.int .i64 b)) (first | exact ⟨k0, k1, k2, k3⟩ | exact ⟨l0, l1, l2, l3⟩ | exact ⟨m0, m1, m2, m3⟩ | exact ⟨n0, n1, n2, n3⟩ | exact ⟨o0, o1, o2, o3⟩)
      (first
        | (go_at_call 79; (with_reducible refine (FA.out _ F1d.out).mono ?_); rintro e w2 ⟨rfl, F2, l0, l1, l2, l3⟩)
        | (go_at_call 79; (with_reducible refine (FB.out _ F2).mono ?_); rintro e w3 ⟨rfl, F3, m0, m1, m2, m3⟩)
        | (go_at_call 79; (with_reducible refine (FC.out _ F3).mono ?_); rintro e w4 ⟨rfl, F4, n0, n1, n2, n3⟩)
        | (go_at_call 79; (with_reducible refine (FD.out _ F4).mono ?_); rintro e w5 ⟨rfl, F5, o0, o1, o2, o3⟩))
    all_goals go_wp2
    all_goals go_ret
    all_goals exact ⟨by rw [HV.out]; rfl, F5.below⟩
  · rw [decide_eq_false hk] at H1
    have HV := Lib.hid (show orT k t a b = ⟨#[]⟩ by unfold orT; rw [if_neg hk])
    go_enter Try.func38, Try.ntmps38
    go_wp2_with fail
    refine (H1.out _).mono ?_
    rintro e w1 ⟨rfl, hb1⟩
    go_wp2
    go_ret
    exact ⟨by rw [HV.out]; rfl, ((Below.refl _ w).alloc (Nat.le_refl _) _).trans (hb1.mono (by simp))⟩

set_option maxHeartbeats 2000000 in
theorem encO_impl (k t a b : Int) (w : World) :
    Calls Try.prog 17 #[orV k t a b] w fun e w' => e = .returned (.string (orT k t a b)) ∧ Below w.heap.size w w' := by
  have H1 := Lib.hid (or_impl k t a b)
  by_cases hk : OrOk k t a b
  · rw [decide_eq_true hk] at H1
    have HV := Lib.hid (show orT k t a b = putS k 1 ++ putS t 3 ++ putS a 1 ++ putS b 2 by unfold orT; rw [if_pos hk])
    have FA := Lib.hid (fun W (hf : Fit w W w.heap.size (orL k t a b)) => (put_impl k 1 W).mono fun e w' h => (⟨h.1, hf.more h.2, (hf.more h.2).box.four4⟩ : e = .returned (.string (putS k 1)) ∧ Fit w w' w.heap.size (orL k t a b) ∧ Cells4O w' w.heap.size (.int .i64 k) (.int .i64 t) (.int .i64 a) (.int .i64 b)))
    have FB := Lib.hid (fun W (hf : Fit w W w.heap.size (orL k t a b)) => (put_impl t 3 W).mono fun e w' h => (⟨h.1, hf.more h.2, (hf.more h.2).box.four4⟩ : e = .returned (.string (putS t 3)) ∧ Fit w w' w.heap.size (orL k t a b) ∧ Cells4O w' w.heap.size (.int .i64 k) (.int .i64 t) (.int .i64 a) (.int .i64 b)))
    have FC := Lib.hid (fun W (hf : Fit w W w.heap.size (orL k t a b)) => (put_impl a 1 W).mono fun e w' h => (⟨h.1, hf.more h.2, (hf.more h.2).box.four4⟩ : e = .returned (.string (putS a 1)) ∧ Fit w w' w.heap.size (orL k t a b) ∧ Cells4O w' w.heap.size (.int .i64 k) (.int .i64 t) (.int .i64 a) (.int .i64 b)))
    have FD := Lib.hid (fun W (hf : Fit w W w.heap.size (orL k t a b)) => (put_impl b 2 W).mono fun e w' h => (⟨h.1, hf.more h.2, (hf.more h.2).box.four4⟩ : e = .returned (.string (putS b 2)) ∧ Fit w w' w.heap.size (orL k t a b) ∧ Cells4O w' w.heap.size (.int .i64 k) (.int .i64 t) (.int .i64 a) (.int .i64 b)))
    have zA := putS_four_le k 1
    have zB := putS_four_le t 3
    have zC := putS_four_le a 1
    have zD := putS_four_le b 2
    generalize putS k 1 = A at *
    generalize putS t 3 = B at *
    generalize putS a 1 = C at *
    generalize putS b 2 = D at *
    have b1 : ¬ 9223372036854775807 < A.size + B.size := by omega
    have b2 : ¬ 9223372036854775807 < A.size + B.size + C.size := by omega
    have b3 : ¬ 9223372036854775807 < A.size + B.size + C.size + D.size := by omega
    go_enter Try.func17, Try.ntmps17
    go_wp2_with fail
    refine (H1.out _).mono ?_
    rintro e w1 ⟨rfl, hb1⟩
    have F1 := Lib.hid ((Fit.made w (orL k t a b) _).more hb1)
    obtain ⟨k0, k1, k2, k3⟩ := F1.out.drew.box.four4
    have F1d := Lib.hid F1.out.drew
    clear hb1
    go_wp2
    go_region_held3 (fun w' => w'.cell? ⟨w.heap.size, 0, none⟩ = some (.int .i64 k) ∧ w'.cell? ⟨w.heap.size, 1, none⟩ = some (.int .i64 t) ∧ w'.cell? ⟨w.heap.size, 2, none⟩ = some (.int .i64 a) ∧ w'.cell? ⟨w.heap.size, 3, none⟩ = some (.int .i64 b)) (first | exact ⟨k0, k1, k2, k3⟩ | exact ⟨l0, l1, l2, l3⟩ | exact ⟨m0, m1, m2, m3⟩ | exact ⟨n0, n1, n2, n3⟩ | exact ⟨o0, o1, o2, o3⟩)
      (first
        | (go_at_call 55; (with_reducible refine (FA.out _ F1d.out).mono ?_); rintro e w2 ⟨rfl, F2, l0, l1, l2, l3⟩)
        | (go_at_call 55; (with_reducible refine (FB.out _ F2).mono ?_); rintro e w3 ⟨rfl, F3, m0, m1, m2, m3⟩)
        | (go_at_call 55; (with_reducible refine (FC.out _ F3).mono ?_); rintro e w4 ⟨rfl, F4, n0, n1, n2, n3⟩)
        | (go_at_call 55; (with_reducible refine (FD.out _ F4).mono ?_); rintro e w5 ⟨rfl, F5, o0, o1, o2, o3⟩))
    all_goals go_wp2
    all_goals go_ret
    all_goals exact ⟨by rw [HV.out]; rfl, F5.below⟩
  · rw [decide_eq_false hk] at H1
    have HV := Lib.hid (show orT k t a b = ⟨#[]⟩ by unfold orT; rw [if_neg hk])
    go_enter Try.func17, Try.ntmps17
    go_wp2_with fail
    refine (H1.out _).mono ?_
    rintro e w1 ⟨rfl, hb1⟩
    go_wp2
    go_ret
    exact ⟨by rw [HV.out]; rfl, ((Below.refl _ w).alloc (Nat.le_refl _) _).trans (hb1.mono (by simp))⟩

end Go.Proofs.Ytebfefkknaalpaa
