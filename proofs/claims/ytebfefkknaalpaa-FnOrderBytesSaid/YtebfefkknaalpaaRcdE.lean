/- What this text proves: the contracts of the model's and the program's EncodeRecord. -/
import Derived.Test.YtebfefkknaalpaaRcd
import Derived.Test.YtebfefkknaalpaaPktE
import Derived.Test.YtebfefkknaalpaaPutS
import Derived.Laws.Concat
import Derived.Deep.RegionHeld3
namespace Go.Proofs.Ytebfefkknaalpaa
open Go.ChangeShapes Go.WideShapes Go.ChangeAt Go.RowKit
set_option linter.unusedVariables false


/-- What EncodeRecord returns. -/
noncomputable def rdT (i q t : Int) (d : ByteArray) : ByteArray := if RdOk i q t d then putS i 2 ++ putS q 1 ++ putS t 3 ++ d else ⟨#[]⟩

set_option maxHeartbeats 2000000 in
theorem encR_spec (i q t : Int) (d : ByteArray) (w : World) :
    Calls Try.prog 44 #[rdV i q t d] w fun e w' => e = .returned (.string (rdT i q t d)) ∧ Below w.heap.size w w' := by
  have H1 := Lib.hid (rd_spec i q t d)
  by_cases hk : RdOk i q t d
  · rw [decide_eq_true hk] at H1
    have hd34 : d.size ≤ 34 := hk.2.2.2
    have HV := Lib.hid (show rdT i q t d = putS i 2 ++ putS q 1 ++ putS t 3 ++ d by unfold rdT; rw [if_pos hk])
    have FA := Lib.hid (fun W (hf : Fit w W w.heap.size (rdL i q t d)) => (put_spec i 2 W).mono fun e w' h => (⟨h.1, hf.more h.2, (hf.more h.2).box.four4⟩ : e = .returned (.string (putS i 2)) ∧ Fit w w' w.heap.size (rdL i q t d) ∧ Cells4O w' w.heap.size (.int .i64 i) (.int .i64 q) (.int .i64 t) (.string d)))
    have FB := Lib.hid (fun W (hf : Fit w W w.heap.size (rdL i q t d)) => (put_spec q 1 W).mono fun e w' h => (⟨h.1, hf.more h.2, (hf.more h.2).box.four4⟩ : e = .returned (.string (putS q 1)) ∧ Fit w w' w.heap.size (rdL i q t d) ∧ Cells4O w' w.heap.size (.int .i64 i) (.int .i64 q) (.int .i64 t) (.string d)))
    have FC := Lib.hid (fun W (hf : Fit w W w.heap.size (rdL i q t d)) => (put_spec t 3 W).mono fun e w' h => (⟨h.1, hf.more h.2, (hf.more h.2).box.four4⟩ : e = .returned (.string (putS t 3)) ∧ Fit w w' w.heap.size (rdL i q t d) ∧ Cells4O w' w.heap.size (.int .i64 i) (.int .i64 q) (.int .i64 t) (.string d)))
    have zA := putS_four_le i 2
    have zB := putS_four_le q 1
    have zC := putS_four_le t 3
    generalize putS i 2 = A at *
    generalize putS q 1 = B at *
    generalize putS t 3 = C at *
    have b1 : ¬ 9223372036854775807 < A.size + B.size := by omega
    have b2 : ¬ 9223372036854775807 < A.size + B.size + C.size := by omega
    have b3 : ¬ 9223372036854775807 < A.size + B.size + C.size + d.size := by omega
    clear hk
    go_enter Try.func44, Try.ntmps44
    go_wp2_with fail
    refine (H1.out _).mono ?_
    rintro e w1 ⟨rfl, hb1⟩
    have F1 := Lib.hid ((Fit.made w (rdL i q t d) _).more hb1)
    obtain ⟨k0, k1, k2, k3⟩ := F1.out.drew.box.four4
    have F1d := Lib.hid F1.out.drew
    clear hb1
    go_wp2
    go_region_held3 (fun w' => w'.cell? ⟨w.heap.size, 0, none⟩ = some (.int .i64 i) ∧ w'.cell? ⟨w.heap.size, 1, none⟩ = some (.int .i64 q) ∧ w'.cell? ⟨w.heap.size, 2, none⟩ = some (.int .i64 t) ∧ w'.cell? ⟨w.heap.size, 3, none⟩ = some (.string d)) (first | exact ⟨k0, k1, k2, k3⟩ | exact ⟨l0, l1, l2, l3⟩ | exact ⟨m0, m1, m2, m3⟩ | exact ⟨n0, n1, n2, n3⟩)
      (first
        | (go_at_call 79; (with_reducible refine (FA.out _ F1d.out).mono ?_); rintro e w2 ⟨rfl, F2, l0, l1, l2, l3⟩)
        | (go_at_call 79; (with_reducible refine (FB.out _ F2).mono ?_); rintro e w3 ⟨rfl, F3, m0, m1, m2, m3⟩)
        | (go_at_call 79; (with_reducible refine (FC.out _ F3).mono ?_); rintro e w4 ⟨rfl, F4, n0, n1, n2, n3⟩))
    all_goals go_wp2
    all_goals go_ret
    all_goals exact ⟨by rw [HV.out]; rfl, F4.below⟩
  · rw [decide_eq_false hk] at H1
    have HV := Lib.hid (show rdT i q t d = ⟨#[]⟩ by unfold rdT; rw [if_neg hk])
    go_enter Try.func44, Try.ntmps44
    go_wp2_with fail
    refine (H1.out _).mono ?_
    rintro e w1 ⟨rfl, hb1⟩
    go_wp2
    go_ret
    exact ⟨by rw [HV.out]; rfl, ((Below.refl _ w).alloc (Nat.le_refl _) _).trans (hb1.mono (by simp))⟩

set_option maxHeartbeats 2000000 in
theorem encR_impl (i q t : Int) (d : ByteArray) (w : World) :
    Calls Try.prog 22 #[rdV i q t d] w fun e w' => e = .returned (.string (rdT i q t d)) ∧ Below w.heap.size w w' := by
  have H1 := Lib.hid (rd_impl i q t d)
  by_cases hk : RdOk i q t d
  · rw [decide_eq_true hk] at H1
    have hd34 : d.size ≤ 34 := hk.2.2.2
    have HV := Lib.hid (show rdT i q t d = putS i 2 ++ putS q 1 ++ putS t 3 ++ d by unfold rdT; rw [if_pos hk])
    have FA := Lib.hid (fun W (hf : Fit w W w.heap.size (rdL i q t d)) => (put_impl i 2 W).mono fun e w' h => (⟨h.1, hf.more h.2, (hf.more h.2).box.four4⟩ : e = .returned (.string (putS i 2)) ∧ Fit w w' w.heap.size (rdL i q t d) ∧ Cells4O w' w.heap.size (.int .i64 i) (.int .i64 q) (.int .i64 t) (.string d)))
    have FB := Lib.hid (fun W (hf : Fit w W w.heap.size (rdL i q t d)) => (put_impl q 1 W).mono fun e w' h => (⟨h.1, hf.more h.2, (hf.more h.2).box.four4⟩ : e = .returned (.string (putS q 1)) ∧ Fit w w' w.heap.size (rdL i q t d) ∧ Cells4O w' w.heap.size (.int .i64 i) (.int .i64 q) (.int .i64 t) (.string d)))
    have FC := Lib.hid (fun W (hf : Fit w W w.heap.size (rdL i q t d)) => (put_impl t 3 W).mono fun e w' h => (⟨h.1, hf.more h.2, (hf.more h.2).box.four4⟩ : e = .returned (.string (putS t 3)) ∧ Fit w w' w.heap.size (rdL i q t d) ∧ Cells4O w' w.heap.size (.int .i64 i) (.int .i64 q) (.int .i64 t) (.string d)))
    have zA := putS_four_le i 2
    have zB := putS_four_le q 1
    have zC := putS_four_le t 3
    generalize putS i 2 = A at *
    generalize putS q 1 = B at *
    generalize putS t 3 = C at *
    have b1 : ¬ 9223372036854775807 < A.size + B.size := by omega
    have b2 : ¬ 9223372036854775807 < A.size + B.size + C.size := by omega
    have b3 : ¬ 9223372036854775807 < A.size + B.size + C.size + d.size := by omega
    clear hk
    go_enter Try.func22, Try.ntmps22
    go_wp2_with fail
    refine (H1.out _).mono ?_
    rintro e w1 ⟨rfl, hb1⟩
    have F1 := Lib.hid ((Fit.made w (rdL i q t d) _).more hb1)
    obtain ⟨k0, k1, k2, k3⟩ := F1.out.drew.box.four4
    have F1d := Lib.hid F1.out.drew
    clear hb1
    go_wp2
    go_region_held3 (fun w' => w'.cell? ⟨w.heap.size, 0, none⟩ = some (.int .i64 i) ∧ w'.cell? ⟨w.heap.size, 1, none⟩ = some (.int .i64 q) ∧ w'.cell? ⟨w.heap.size, 2, none⟩ = some (.int .i64 t) ∧ w'.cell? ⟨w.heap.size, 3, none⟩ = some (.string d)) (first | exact ⟨k0, k1, k2, k3⟩ | exact ⟨l0, l1, l2, l3⟩ | exact ⟨m0, m1, m2, m3⟩ | exact ⟨n0, n1, n2, n3⟩)
      (first
        | (go_at_call 55; (with_reducible refine (FA.out _ F1d.out).mono ?_); rintro e w2 ⟨rfl, F2, l0, l1, l2, l3⟩)
        | (go_at_call 55; (with_reducible refine (FB.out _ F2).mono ?_); rintro e w3 ⟨rfl, F3, m0, m1, m2, m3⟩)
        | (go_at_call 55; (with_reducible refine (FC.out _ F3).mono ?_); rintro e w4 ⟨rfl, F4, n0, n1, n2, n3⟩))
    all_goals go_wp2
    all_goals go_ret
    all_goals exact ⟨by rw [HV.out]; rfl, F4.below⟩
  · rw [decide_eq_false hk] at H1
    have HV := Lib.hid (show rdT i q t d = ⟨#[]⟩ by unfold rdT; rw [if_neg hk])
    go_enter Try.func22, Try.ntmps22
    go_wp2_with fail
    refine (H1.out _).mono ?_
    rintro e w1 ⟨rfl, hb1⟩
    go_wp2
    go_ret
    exact ⟨by rw [HV.out]; rfl, ((Below.refl _ w).alloc (Nat.le_refl _) _).trans (hb1.mono (by simp))⟩

end Go.Proofs.Ytebfefkknaalpaa
