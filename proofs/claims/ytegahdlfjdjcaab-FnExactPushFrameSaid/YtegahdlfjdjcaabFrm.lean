/- What this text proves: the contracts of the laws' own functions over frames, and of the model's FrameOk and EncodeFrame. -/
import Derived.Test.YtegahdlfjdjcaabPktE
import Derived.Test.YtegahdlfjdjcaabSeal
namespace Go.Proofs.Ytegahdlfjdjcaab
open Go.ChangeShapes Go.WideShapes Go.ChangeAt Go.RowKit
set_option linter.unusedVariables false

/-- A frame as a value. -/
abbrev frV (c n f : Int) (d : ByteArray) : Value := .agg #[.int .i64 c, .int .i64 n, .int .i64 f, .string d]
abbrev frL (c n f : Int) (d : ByteArray) : List Value := [.int .i64 c, .int .i64 n, .int .i64 f, .string d]
def FrOk (c n f : Int) (d : ByteArray) : Prop := (0 ≤ c ∧ c ≤ 2) ∧ (0 ≤ n ∧ n ≤ 255) ∧ ((0 ≤ f ∧ f ≤ 23) ∨ f = 255) ∧ d.size = 24
instance (c n f : Int) (d : ByteArray) : Decidable (FrOk c n f d) := by unfold FrOk; infer_instance
abbrev Cells4 (W : World) (g : Nat) (x y z u : Value) : Prop := W.cell? ⟨g, 0, none⟩ = some x ∧ W.cell? ⟨g, 1, none⟩ = some y ∧ W.cell? ⟨g, 2, none⟩ = some z ∧ W.cell? ⟨g, 3, none⟩ = some u
theorem Box.four {W : World} {g : Nat} {x y z u : Value} (h : Box W g [x, y, z, u]) : Cells4 W g x y z u := ⟨h.cell 0 (by simp), h.cell 1 (by simp), h.cell 2 (by simp), h.cell 3 (by simp)⟩

theorem sz_frm (c n f : Int) (d : ByteArray) (L : Nat) (hL : L ≤ 1048576) (hd : d.size ≤ maxLen) (w : World) :
    Calls Try.prog 29 #[frV c n f d, .int .i64 (L : Int)] w fun e w' => e = .returned (.int .i64 (if d.size ≤ L then (L : Int) - (d.size : Int) else -1)) ∧ Below w.heap.size w w' := by
  have hd' : d.size ≤ 9223372036854775807 := by unfold maxLen at hd; omega
  by_cases h : d.size ≤ L
  · rw [if_pos h]
    have hd0 : decide ((L : Int) - (d.size : Int) < 0) = false := by simp; omega
    go_enter Try.func29, Try.ntmps29
    go_wp2
    go_ret
    exact ⟨rfl, (Below.refl _ w).alloc (Nat.le_refl _) _⟩
  · rw [if_neg h]
    have hd0 : decide ((L : Int) - (d.size : Int) < 0) = true := by simp; omega
    go_enter Try.func29, Try.ntmps29
    go_wp2
    go_ret
    exact ⟨rfl, (Below.refl _ w).alloc (Nat.le_refl _) _⟩
theorem to_frm (c n f : Int) (d : ByteArray) (w : World) :
    Calls Try.prog 31 #[frV c n f d] w fun e w' => e = .returned (frV c n f d) ∧ Below w.heap.size w w' := by
  go_enter Try.func31, Try.ntmps31
  go_wp2
  refine bodyPost_ret (v := frV c n f d) (by simp [results, Try.results31, go_sem]) rfl ⟨rfl, (((Below.refl _ w).alloc (Nat.le_refl _) _).alloc (by simp) _).alloc (by simp; omega) _⟩
theorem eq_frm (c n f : Int) (d : ByteArray) (w : World) :
    Calls Try.prog 14 #[frV c n f d, frV c n f d] w fun e w' => e = .returned (.bool true) ∧ Below w.heap.size w w' := by
  have hself : (d.toList == d.toList) = true := beq_self_eq_true _
  go_enter Try.func14, Try.ntmps14
  go_wp2
  go_ret
  exact ⟨rfl, ((Below.refl _ w).alloc (Nat.le_refl _) _).alloc (by simp) _⟩

set_option maxHeartbeats 1000000 in
theorem fo_spec (c n f : Int) (d : ByteArray) (w : World) :
    Calls Try.prog 55 #[frV c n f d] w fun e w' => e = .returned (.bool (decide (FrOk c n f d))) ∧ Below w.heap.size w w' := by
  have HO := Lib.hid (show ∀ B : Bool, (B = (decide (0 ≤ c ∧ c ≤ 2) && (decide (0 ≤ n ∧ n ≤ 255) && ((decide (0 ≤ f ∧ f ≤ 23) || decide (f = 255)) && decide (d.size = 24))))) → B = decide (FrOk c n f d) from fun B h => by
    rw [h, Bool.eq_iff_iff]
    simp only [Bool.and_eq_true, Bool.or_eq_true, decide_eq_true_iff]
    exact Iff.rfl)
  have hcast : ((d.size : Int) == 24) = decide (d.size = 24) := by
    rw [Bool.eq_iff_iff]
    simp
    omega
  by_cases h1 : 0 ≤ c ∧ c ≤ 2
  · have e1 := Lib.hid (decide_eq_true h1)
    have H1 := Lib.hid (in_yes c 0 2 h1.1 h1.2)
    by_cases h2 : 0 ≤ n ∧ n ≤ 255
    · have e2 := Lib.hid (decide_eq_true h2)
      have H2 := Lib.hid (in_yes n 0 255 h2.1 h2.2)
      by_cases h3 : 0 ≤ f ∧ f ≤ 23
      · have e3 := Lib.hid (decide_eq_true h3)
        have H3 := Lib.hid (in_yes f 0 23 h3.1 h3.2)
        go_enter Try.func55, Try.ntmps55
        go_wp2_with fail
        refine (H1.out _).mono ?_
        rintro e w' ⟨rfl, rfl⟩
        go_wp2_with fail
        refine (H2.out _).mono ?_
        rintro e w' ⟨rfl, rfl⟩
        go_wp2_with fail
        refine (H3.out _).mono ?_
        rintro e w' ⟨rfl, rfl⟩
        go_wp2
        go_ret
        exact ⟨by rw [← HO.out _ rfl, e1.out, e2.out, e3.out]; simp, (Below.refl _ w).alloc (Nat.le_refl _) _⟩
      · have e3 := Lib.hid (decide_eq_false h3)
        have H3 := Lib.hid (in_no f 0 23 h3)
        by_cases h4 : f = 255
        · have e4 := Lib.hid (decide_eq_true h4)
          have d4 : (f == 255) = true := by simpa using h4
          clear h4
          go_enter Try.func55, Try.ntmps55
          go_wp2_with fail
          refine (H1.out _).mono ?_
          rintro e w' ⟨rfl, rfl⟩
          go_wp2_with fail
          refine (H2.out _).mono ?_
          rintro e w' ⟨rfl, rfl⟩
          go_wp2_with fail
          refine (H3.out _).mono ?_
          rintro e w' ⟨rfl, rfl⟩
          go_wp2
          go_ret
          exact ⟨by rw [← HO.out _ rfl, e1.out, e2.out, e3.out, e4.out]; simp, (Below.refl _ w).alloc (Nat.le_refl _) _⟩
        · have e4 := Lib.hid (decide_eq_false h4)
          have d4 : (f == 255) = false := by simpa using h4
          clear h4
          go_enter Try.func55, Try.ntmps55
          go_wp2_with fail
          refine (H1.out _).mono ?_
          rintro e w' ⟨rfl, rfl⟩
          go_wp2_with fail
          refine (H2.out _).mono ?_
          rintro e w' ⟨rfl, rfl⟩
          go_wp2_with fail
          refine (H3.out _).mono ?_
          rintro e w' ⟨rfl, rfl⟩
          go_wp2
          go_ret
          exact ⟨by rw [← HO.out _ rfl, e1.out, e2.out, e3.out, e4.out]; simp, (Below.refl _ w).alloc (Nat.le_refl _) _⟩
    · have e2 := Lib.hid (decide_eq_false h2)
      have H2 := Lib.hid (in_no n 0 255 h2)
      go_enter Try.func55, Try.ntmps55
      go_wp2_with fail
      refine (H1.out _).mono ?_
      rintro e w' ⟨rfl, rfl⟩
      go_wp2_with fail
      refine (H2.out _).mono ?_
      rintro e w' ⟨rfl, rfl⟩
      go_wp2
      go_ret
      exact ⟨by rw [← HO.out _ rfl, e1.out, e2.out]; simp, (Below.refl _ w).alloc (Nat.le_refl _) _⟩
  · have e1 := Lib.hid (decide_eq_false h1)
    have H1 := Lib.hid (in_no c 0 2 h1)
    go_enter Try.func55, Try.ntmps55
    go_wp2_with fail
    refine (H1.out _).mono ?_
    rintro e w' ⟨rfl, rfl⟩
    go_wp2
    go_ret
    exact ⟨by rw [← HO.out _ rfl, e1.out]; simp, (Below.refl _ w).alloc (Nat.le_refl _) _⟩

/-- What EncodeFrame returns. -/
noncomputable def frT (c n f : Int) (d : ByteArray) : ByteArray := if FrOk c n f d then sealS (putS c 1 ++ putS n 1 ++ putS f 1 ++ d) else ⟨#[]⟩

end Go.Proofs.Ytegahdlfjdjcaab
