/- What this text proves: the contract of the program's EncodeFrame. -/
import Derived.Test.YtegahdlfjdjcaaaIFr
namespace Go.Proofs.Ytegahdlfjdjcaaa
open Go.ChangeShapes Go.WideShapes Go.ChangeAt Go.RowKit
set_option linter.unusedVariables false

set_option maxHeartbeats 2000000 in
theorem encF_impl (c n f : Int) (d : ByteArray) (hd : d.size ≤ 1048576) (w : World) :
    Calls Try.prog 24 #[frV c n f d] w fun e w' => e = .returned (.string (frT c n f d)) ∧ Below w.heap.size w w' := by
  have H1 := Lib.hid (fo_impl c n f d)
  by_cases hk : FrOk c n f d
  · rw [decide_eq_true hk] at H1
    have HV := Lib.hid (show frT c n f d = sealS (putS c 1 ++ putS n 1 ++ putS f 1 ++ d) by unfold frT; rw [if_pos hk])
    have FA := Lib.hid (fun W (hf : Fit w W w.heap.size (frL c n f d)) => (put_impl c 1 W).mono fun e w' h => (⟨h.1, hf.more h.2, (hf.more h.2).box.four⟩ : e = .returned (.string (putS c 1)) ∧ Fit w w' w.heap.size (frL c n f d) ∧ Cells4 w' w.heap.size (.int .i64 c) (.int .i64 n) (.int .i64 f) (.string d)))
    have FB := Lib.hid (fun W (hf : Fit w W w.heap.size (frL c n f d)) => (put_impl n 1 W).mono fun e w' h => (⟨h.1, hf.more h.2, (hf.more h.2).box.four⟩ : e = .returned (.string (putS n 1)) ∧ Fit w w' w.heap.size (frL c n f d) ∧ Cells4 w' w.heap.size (.int .i64 c) (.int .i64 n) (.int .i64 f) (.string d)))
    have FC := Lib.hid (fun W (hf : Fit w W w.heap.size (frL c n f d)) => (put_impl f 1 W).mono fun e w' h => (⟨h.1, hf.more h.2, (hf.more h.2).box.four⟩ : e = .returned (.string (putS f 1)) ∧ Fit w w' w.heap.size (frL c n f d) ∧ Cells4 w' w.heap.size (.int .i64 c) (.int .i64 n) (.int .i64 f) (.string d)))
    have zA := putS_four_le c 1
    have zB := putS_four_le n 1
    have zC := putS_four_le f 1
    have FD := Lib.hid (fun W (hf : Fit w W w.heap.size (frL c n f d)) => (seal_impl (putS c 1 ++ putS n 1 ++ putS f 1 ++ d) (by rw [ByteArray.size_append, ByteArray.size_append, ByteArray.size_append]; have := hk.2.2.2; omega) W).mono fun e w' h => (⟨h.1, hf.more h.2, (hf.more h.2).box.four⟩ : e = .returned (.string (sealS (putS c 1 ++ putS n 1 ++ putS f 1 ++ d))) ∧ Fit w w' w.heap.size (frL c n f d) ∧ Cells4 w' w.heap.size (.int .i64 c) (.int .i64 n) (.int .i64 f) (.string d)))
    generalize sealS (putS c 1 ++ putS n 1 ++ putS f 1 ++ d) = T at *
    generalize putS c 1 = A at *
    generalize putS n 1 = B at *
    generalize putS f 1 = C at *
    have b1 : ¬ 9223372036854775807 < A.size + B.size := by omega
    have b2 : ¬ 9223372036854775807 < A.size + B.size + C.size := by omega
    have b3 : ¬ 9223372036854775807 < A.size + B.size + C.size + d.size := by omega
    go_enter Try.func24, Try.ntmps24
    go_wp2_with fail
    refine (H1.out _).mono ?_
    rintro e w1 ⟨rfl, hb1⟩
    have F1 := Lib.hid ((Fit.made w (frL c n f d) _).more hb1)
    obtain ⟨k0, k1, k2, k3⟩ := F1.out.drew.box.four
    have F1d := Lib.hid F1.out.drew
    clear hb1
    go_wp2
    go_region_held3 (fun w' => w'.cell? ⟨w.heap.size, 0, none⟩ = some (.int .i64 c) ∧ w'.cell? ⟨w.heap.size, 1, none⟩ = some (.int .i64 n) ∧ w'.cell? ⟨w.heap.size, 2, none⟩ = some (.int .i64 f) ∧ w'.cell? ⟨w.heap.size, 3, none⟩ = some (.string d)) (first | exact ⟨k0, k1, k2, k3⟩ | exact ⟨l0, l1, l2, l3⟩ | exact ⟨m0, m1, m2, m3⟩ | exact ⟨n0, n1, n2, n3⟩ | exact ⟨p0, p1, p2, p3⟩)
      (first
        | (go_at_call 57; (with_reducible refine (FA.out _ F1d.out).mono ?_); rintro e w2 ⟨rfl, F2, l0, l1, l2, l3⟩)
        | (go_at_call 57; (with_reducible refine (FB.out _ F2).mono ?_); rintro e w3 ⟨rfl, F3, m0, m1, m2, m3⟩)
        | (go_at_call 57; (with_reducible refine (FC.out _ F3).mono ?_); rintro e w4 ⟨rfl, F4, n0, n1, n2, n3⟩)
        | (go_at_call 65; (with_reducible refine (FD.out _ F4).mono ?_); rintro e w5 ⟨rfl, F5, p0, p1, p2, p3⟩))
    all_goals go_wp2
    all_goals go_ret
    all_goals exact ⟨by rw [HV.out]; rfl, F5.below⟩
  · rw [decide_eq_false hk] at H1
    have HV := Lib.hid (show frT c n f d = ⟨#[]⟩ by unfold frT; rw [if_neg hk])
    go_enter Try.func24, Try.ntmps24
    go_wp2_with fail
    refine (H1.out _).mono ?_
    rintro e w1 ⟨rfl, hb1⟩
    go_wp2
    go_ret
    exact ⟨by rw [HV.out]; rfl, ((Below.refl _ w).alloc (Nat.le_refl _) _).trans (hb1.mono (by simp))⟩
end Go.Proofs.Ytegahdlfjdjcaaa
