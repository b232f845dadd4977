/- What this text proves: the contracts of the laws' own functions over packets, and of the model's PacketOk. -/
import Derived.Test.YtegahdlfjdjcaaaBox
import Derived.Test.YtegahdlfjdjcaaaRand
namespace Go.Proofs.Ytegahdlfjdjcaaa
open Go.ChangeShapes Go.WideShapes Go.ChangeAt Go.RowKit
set_option linter.unusedVariables false

/-- A packet as a value. -/
abbrev pkV (a q : Int) (d : ByteArray) : Value := .agg #[.int .i64 a, .int .i64 q, .string d]
abbrev pkL (a q : Int) (d : ByteArray) : List Value := [.int .i64 a, .int .i64 q, .string d]
def PkOk (a q : Int) (d : ByteArray) : Prop := (0 ≤ a ∧ a ≤ 15) ∧ (0 ≤ q ∧ q ≤ 65535) ∧ d.size ≤ 40
instance (a q : Int) (d : ByteArray) : Decidable (PkOk a q d) := by unfold PkOk; infer_instance

theorem in_anyP (a b c : Int) (w : World) :
    Calls Try.prog 68 #[.int .i64 a, .int .i64 b, .int .i64 c] w fun e w' => e = .returned (.bool (decide (b ≤ a ∧ a ≤ c))) ∧ w = w' := by
  by_cases h : b ≤ a ∧ a ≤ c
  · rw [decide_eq_true h]
    exact in_yes a b c h.1 h.2 w
  · rw [decide_eq_false h]
    exact in_no a b c h w

theorem sz_pkt (a q : Int) (d : ByteArray) (L : Nat) (hL : L ≤ 1048576) (hd : d.size ≤ maxLen) (w : World) :
    Calls Try.prog 34 #[pkV a q d, .int .i64 (L : Int)] w fun e w' => e = .returned (.int .i64 (if d.size ≤ L then (L : Int) - (d.size : Int) else -1)) ∧ Below w.heap.size w w' := by
  have hd' : d.size ≤ 9223372036854775807 := by unfold maxLen at hd; omega
  by_cases h : d.size ≤ L
  · rw [if_pos h]
    have hd0 : decide ((L : Int) - (d.size : Int) < 0) = false := by simp; omega
    go_enter Try.func34, Try.ntmps34
    go_wp2
    go_ret
    exact ⟨rfl, (Below.refl _ w).alloc (Nat.le_refl _) _⟩
  · rw [if_neg h]
    have hd0 : decide ((L : Int) - (d.size : Int) < 0) = true := by simp; omega
    go_enter Try.func34, Try.ntmps34
    go_wp2
    go_ret
    exact ⟨rfl, (Below.refl _ w).alloc (Nat.le_refl _) _⟩

theorem to_pkt (a q : Int) (d : ByteArray) (w : World) :
    Calls Try.prog 36 #[pkV a q d] w fun e w' => e = .returned (pkV a q d) ∧ Below w.heap.size w w' := by
  go_enter Try.func36, Try.ntmps36
  go_wp2
  refine bodyPost_ret (v := pkV a q d) (by simp [results, Try.results36, go_sem]) rfl ⟨rfl, (((Below.refl _ w).alloc (Nat.le_refl _) _).alloc (by simp) _).alloc (by simp; omega) _⟩

theorem eq_pkt (a q : Int) (d : ByteArray) (w : World) :
    Calls Try.prog 39 #[pkV a q d, pkV a q d] w fun e w' => e = .returned (.bool true) ∧ Below w.heap.size w w' := by
  have hself : (d.toList == d.toList) = true := beq_self_eq_true _
  go_enter Try.func39, Try.ntmps39
  go_wp2
  go_ret
  exact ⟨rfl, ((Below.refl _ w).alloc (Nat.le_refl _) _).alloc (by simp) _⟩

theorem pk_spec (a q : Int) (d : ByteArray) (w : World) :
    Calls Try.prog 35 #[pkV a q d] w fun e w' => e = .returned (.bool (decide (PkOk a q d))) ∧ Below w.heap.size w w' := by
  have HO := Lib.hid (show ∀ B : Bool, (B = (decide (0 ≤ a ∧ a ≤ 15) && (decide (0 ≤ q ∧ q ≤ 65535) && decide (d.size ≤ 40)))) → B = decide (PkOk a q d) from fun B h => by
    rw [h, Bool.eq_iff_iff]
    simp only [Bool.and_eq_true, decide_eq_true_iff]
    exact Iff.rfl)
  by_cases h1 : 0 ≤ a ∧ a ≤ 15
  · by_cases h2 : 0 ≤ q ∧ q ≤ 65535
    · have e1 := Lib.hid (decide_eq_true h1)
      have e2 := Lib.hid (decide_eq_true h2)
      have H1 := Lib.hid (in_yes a 0 15 h1.1 h1.2)
      have H2 := Lib.hid (in_yes q 0 65535 h2.1 h2.2)
      have hcast : decide ((d.size : Int) ≤ 40) = decide (d.size ≤ 40) := by rw [decide_eq_decide]; omega
      go_enter Try.func35, Try.ntmps35
      go_wp2_with fail
      refine (H1.out _).mono ?_
      rintro e w' ⟨rfl, rfl⟩
      go_wp2_with fail
      refine (H2.out _).mono ?_
      rintro e w' ⟨rfl, rfl⟩
      go_wp2
      go_ret
      exact ⟨by rw [← HO.out _ rfl, e1.out, e2.out]; simp, (Below.refl _ w).alloc (Nat.le_refl _) _⟩
    · have e1 := Lib.hid (decide_eq_true h1)
      have e2 := Lib.hid (decide_eq_false h2)
      have H1 := Lib.hid (in_yes a 0 15 h1.1 h1.2)
      have H2 := Lib.hid (in_no q 0 65535 h2)
      go_enter Try.func35, Try.ntmps35
      go_wp2_with fail
      refine (H1.out _).mono ?_
      rintro e w' ⟨rfl, rfl⟩
      go_wp2_with fail
      refine (H2.out _).mono ?_
      rintro e w' ⟨rfl, rfl⟩
      go_wp2
      go_ret
      exact ⟨by rw [← HO.out _ rfl, e1.out, e2.out]; simp, (Below.refl _ w).alloc (Nat.le_refl _) _⟩
  · have e1 := Lib.hid (decide_eq_false h1)
    have H1 := Lib.hid (in_no a 0 15 h1)
    go_enter Try.func35, Try.ntmps35
    go_wp2_with fail
    refine (H1.out _).mono ?_
    rintro e w' ⟨rfl, rfl⟩
    go_wp2
    go_ret
    exact ⟨by rw [← HO.out _ rfl, e1.out]; simp, (Below.refl _ w).alloc (Nat.le_refl _) _⟩
end Go.Proofs.Ytegahdlfjdjcaaa
