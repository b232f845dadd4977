/- What this text proves: the parts IUn, IFr of the proof, each under its own words. -/
import Derived.Test.YtegahdlfjdjcaaaV22
import Derived.Test.YtegahdlfjdjcaaaV11
/- What this text proves: the contracts of the program's UnpackerOk and NewUnpacker. -/
namespace Go.Proofs.Ytegahdlfjdjcaaa
open Go.ChangeShapes Go.WideShapes Go.ChangeAt Go.RowKit
set_option linter.unusedVariables false

theorem new_impl (c : Int) (w : World) :
    Calls Try.prog 28 #[.int .i64 c] w fun e w' => e = .returned (unV c (-1) false ⟨#[]⟩ 0) ∧ Below w.heap.size w w' := by
  go_enter Try.func28, Try.ntmps28
  go_wp2
  refine bodyPost_ret (v := unV c (-1) false ⟨#[]⟩ 0) (by simp [results, Try.results28, go_sem]) rfl ⟨rfl, (Below.refl _ w).alloc (Nat.le_refl _) _⟩
set_option maxHeartbeats 1000000 in
theorem up_impl (c n : Int) (b : Bool) (r : ByteArray) (l : Int) (w : World) :
    Calls Try.prog 33 #[unV c n b r l] w fun e w' => e = .returned (.bool (decide (UpOk c n b r l))) ∧ Below w.heap.size w w' := by
  have HO := Lib.hid (show ∀ B : Bool, (B = (decide (0 ≤ c ∧ c ≤ 2) && (decide (-1 ≤ n ∧ n ≤ 255) && (decide (0 ≤ l ∧ l ≤ 1000000) && ((b || decide (r.size = 0)) && decide (r.size ≤ 43)))))) → B = decide (UpOk c n b r l) from fun B h => by
    rw [h, Bool.eq_iff_iff]
    simp only [Bool.and_eq_true, Bool.or_eq_true, decide_eq_true_iff]
    exact Iff.rfl)
  have hcast : decide ((r.size : Int) ≤ 43) = decide (r.size ≤ 43) := by rw [decide_eq_decide]; omega
  by_cases h1 : 0 ≤ c ∧ c ≤ 2
  · have e1 := Lib.hid (decide_eq_true h1)
    have H1 := Lib.hid (iw_yes c 0 2 h1.1 h1.2)
    by_cases h2 : -1 ≤ n ∧ n ≤ 255
    · have e2 := Lib.hid (decide_eq_true h2)
      have H2 := Lib.hid (iw_yes n (-1) 255 h2.1 h2.2)
      by_cases h3 : 0 ≤ l ∧ l ≤ 1000000
      · have e3 := Lib.hid (decide_eq_true h3)
        have H3 := Lib.hid (iw_yes l 0 1000000 h3.1 h3.2)
        cases b with
        | true =>
          go_enter Try.func33, Try.ntmps33
          go_wp2_with fail
          refine (H1.out _).mono ?_
          rintro e w' ⟨rfl, rfl⟩
          go_wp2_with fail
          refine (H2.out _).mono ?_
          rintro e w' ⟨rfl, rfl⟩
          go_wp2_with fail
          refine (H3.out _).mono ?_
          rintro e w' ⟨rfl, rfl⟩
          go_wp2
          go_ret
          exact ⟨by rw [← HO.out _ rfl, e1.out, e2.out, e3.out]; simp, (Below.refl _ w).alloc (Nat.le_refl _) _⟩
        | false =>
          by_cases h4 : r.size = 0
          · have e4 := Lib.hid (decide_eq_true h4)
            have d4 := text_none r h4
            clear h4
            go_enter Try.func33, Try.ntmps33
            go_wp2_with fail
            refine (H1.out _).mono ?_
            rintro e w' ⟨rfl, rfl⟩
            go_wp2_with fail
            refine (H2.out _).mono ?_
            rintro e w' ⟨rfl, rfl⟩
            go_wp2_with fail
            refine (H3.out _).mono ?_
            rintro e w' ⟨rfl, rfl⟩
            go_wp2
            go_ret
            exact ⟨by rw [← HO.out _ rfl, e1.out, e2.out, e3.out, e4.out]; simp, (Below.refl _ w).alloc (Nat.le_refl _) _⟩
          · have e4 := Lib.hid (decide_eq_false h4)
            have d4 := text_full r (by omega)
            clear h4
            go_enter Try.func33, Try.ntmps33
            go_wp2_with fail
            refine (H1.out _).mono ?_
            rintro e w' ⟨rfl, rfl⟩
            go_wp2_with fail
            refine (H2.out _).mono ?_
            rintro e w' ⟨rfl, rfl⟩
            go_wp2_with fail
            refine (H3.out _).mono ?_
            rintro e w' ⟨rfl, rfl⟩
            go_wp2
            go_ret
            exact ⟨by rw [← HO.out _ rfl, e1.out, e2.out, e3.out, e4.out]; simp, (Below.refl _ w).alloc (Nat.le_refl _) _⟩
      · have e3 := Lib.hid (decide_eq_false h3)
        have H3 := Lib.hid (iw_no l 0 1000000 h3)
        go_enter Try.func33, Try.ntmps33
        go_wp2_with fail
        refine (H1.out _).mono ?_
        rintro e w' ⟨rfl, rfl⟩
        go_wp2_with fail
        refine (H2.out _).mono ?_
        rintro e w' ⟨rfl, rfl⟩
        go_wp2_with fail
        refine (H3.out _).mono ?_
        rintro e w' ⟨rfl, rfl⟩
        go_wp2
        go_ret
        exact ⟨by rw [← HO.out _ rfl, e1.out, e2.out, e3.out]; simp, (Below.refl _ w).alloc (Nat.le_refl _) _⟩
    · have e2 := Lib.hid (decide_eq_false h2)
      have H2 := Lib.hid (iw_no n (-1) 255 h2)
      go_enter Try.func33, Try.ntmps33
      go_wp2_with fail
      refine (H1.out _).mono ?_
      rintro e w' ⟨rfl, rfl⟩
      go_wp2_with fail
      refine (H2.out _).mono ?_
      rintro e w' ⟨rfl, rfl⟩
      go_wp2
      go_ret
      exact ⟨by rw [← HO.out _ rfl, e1.out, e2.out]; simp, (Below.refl _ w).alloc (Nat.le_refl _) _⟩
  · have e1 := Lib.hid (decide_eq_false h1)
    have H1 := Lib.hid (iw_no c 0 2 h1)
    go_enter Try.func33, Try.ntmps33
    go_wp2_with fail
    refine (H1.out _).mono ?_
    rintro e w' ⟨rfl, rfl⟩
    go_wp2
    go_ret
    exact ⟨by rw [← HO.out _ rfl, e1.out]; simp, (Below.refl _ w).alloc (Nat.le_refl _) _⟩
end Go.Proofs.Ytegahdlfjdjcaaa
/- What this text proves: the contract of the program's FrameOk. -/
namespace Go.Proofs.Ytegahdlfjdjcaaa
open Go.ChangeShapes Go.WideShapes Go.ChangeAt Go.RowKit
set_option linter.unusedVariables false

set_option maxHeartbeats 1000000 in
theorem fo_impl (c n f : Int) (d : ByteArray) (w : World) :
    Calls Try.prog 27 #[frV c n f d] w fun e w' => e = .returned (.bool (decide (FrOk c n f d))) ∧ Below w.heap.size w w' := by
  have HO := Lib.hid (show ∀ B : Bool, (B = (decide (0 ≤ c ∧ c ≤ 2) && (decide (0 ≤ n ∧ n ≤ 255) && ((decide (0 ≤ f ∧ f ≤ 23) || decide (f = 255)) && decide (d.size = 24))))) → B = decide (FrOk c n f d) from fun B h => by
    rw [h, Bool.eq_iff_iff]
    simp only [Bool.and_eq_true, Bool.or_eq_true, decide_eq_true_iff]
    exact Iff.rfl)
  have hcast : ((d.size : Int) == 24) = decide (d.size = 24) := by
    rw [Bool.eq_iff_iff]
    simp
    omega
  by_cases h1 : 0 ≤ c ∧ c ≤ 2
  · have e1 := Lib.hid (decide_eq_true h1)
    have H1 := Lib.hid (iw_yes c 0 2 h1.1 h1.2)
    by_cases h2 : 0 ≤ n ∧ n ≤ 255
    · have e2 := Lib.hid (decide_eq_true h2)
      have H2 := Lib.hid (iw_yes n 0 255 h2.1 h2.2)
      by_cases h3 : 0 ≤ f ∧ f ≤ 23
      · have e3 := Lib.hid (decide_eq_true h3)
        have H3 := Lib.hid (iw_yes f 0 23 h3.1 h3.2)
        go_enter Try.func27, Try.ntmps27
        go_wp2_with fail
        refine (H1.out _).mono ?_
        rintro e w' ⟨rfl, rfl⟩
        go_wp2_with fail
        refine (H2.out _).mono ?_
        rintro e w' ⟨rfl, rfl⟩
        go_wp2_with fail
        refine (H3.out _).mono ?_
        rintro e w' ⟨rfl, rfl⟩
        go_wp2
        go_ret
        exact ⟨by rw [← HO.out _ rfl, e1.out, e2.out, e3.out]; simp, (Below.refl _ w).alloc (Nat.le_refl _) _⟩
      · have e3 := Lib.hid (decide_eq_false h3)
        have H3 := Lib.hid (iw_no f 0 23 h3)
        by_cases h4 : f = 255
        · have e4 := Lib.hid (decide_eq_true h4)
          have d4 : (f == 255) = true := by simpa using h4
          clear h4
          go_enter Try.func27, Try.ntmps27
          go_wp2_with fail
          refine (H1.out _).mono ?_
          rintro e w' ⟨rfl, rfl⟩
          go_wp2_with fail
          refine (H2.out _).mono ?_
          rintro e w' ⟨rfl, rfl⟩
          go_wp2_with fail
          refine (H3.out _).mono ?_
          rintro e w' ⟨rfl, rfl⟩
          go_wp2
          go_ret
          exact ⟨by rw [← HO.out _ rfl, e1.out, e2.out, e3.out, e4.out]; simp, (Below.refl _ w).alloc (Nat.le_refl _) _⟩
        · have e4 := Lib.hid (decide_eq_false h4)
          have d4 : (f == 255) = false := by simpa using h4
          clear h4
          go_enter Try.func27, Try.ntmps27
          go_wp2_with fail
          refine (H1.out _).mono ?_
          rintro e w' ⟨rfl, rfl⟩
          go_wp2_with fail
          refine (H2.out _).mono ?_
          rintro e w' ⟨rfl, rfl⟩
          go_wp2_with fail
          refine (H3.out _).mono ?_
          rintro e w' ⟨rfl, rfl⟩
          go_wp2
          go_ret
          exact ⟨by rw [← HO.out _ rfl, e1.out, e2.out, e3.out, e4.out]; simp, (Below.refl _ w).alloc (Nat.le_refl _) _⟩
    · have e2 := Lib.hid (decide_eq_false h2)
      have H2 := Lib.hid (iw_no n 0 255 h2)
      go_enter Try.func27, Try.ntmps27
      go_wp2_with fail
      refine (H1.out _).mono ?_
      rintro e w' ⟨rfl, rfl⟩
      go_wp2_with fail
      refine (H2.out _).mono ?_
      rintro e w' ⟨rfl, rfl⟩
      go_wp2
      go_ret
      exact ⟨by rw [← HO.out _ rfl, e1.out, e2.out]; simp, (Below.refl _ w).alloc (Nat.le_refl _) _⟩
  · have e1 := Lib.hid (decide_eq_false h1)
    have H1 := Lib.hid (iw_no c 0 2 h1)
    go_enter Try.func27, Try.ntmps27
    go_wp2_with fail
    refine (H1.out _).mono ?_
    rintro e w' ⟨rfl, rfl⟩
    go_wp2
    go_ret
    exact ⟨by rw [← HO.out _ rfl, e1.out]; simp, (Below.refl _ w).alloc (Nat.le_refl _) _⟩

end Go.Proofs.Ytegahdlfjdjcaaa
