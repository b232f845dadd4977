/- What this text proves: records as values; the laws' own functions over them; the contracts of the model's and the program's RecordOk. -/
import Derived.Test.YtebfefkknaalpabBox
import Derived.Test.YtebfefkknaalpabRand
import Derived.Test.YtebfefkknaalpabOrd
import Derived.Test.YtebfefkknaalpabPkt
namespace Go.Proofs.Ytebfefkknaalpab
open Go.ChangeShapes Go.WideShapes Go.ChangeAt Go.RowKit
set_option linter.unusedVariables false


abbrev rdV (i q t : Int) (d : ByteArray) : Value := .agg #[.int .i64 i, .int .i64 q, .int .i64 t, .string d]
abbrev rdL (i q t : Int) (d : ByteArray) : List Value := [.int .i64 i, .int .i64 q, .int .i64 t, .string d]
def RdOk (i q t : Int) (d : ByteArray) : Prop := (0 ≤ i ∧ i ≤ 65535) ∧ (0 ≤ q ∧ q ≤ 3) ∧ (0 ≤ t ∧ t ≤ 1000000) ∧ d.size ≤ 34
instance (i q t : Int) (d : ByteArray) : Decidable (RdOk i q t d) := by unfold RdOk; infer_instance

theorem sz_rcd (i q t : Int) (d : ByteArray) (L : Nat) (hL : L ≤ 1048576) (hd : d.size ≤ maxLen) (w : World) :
    Calls Try.prog 14 #[rdV i q t d, .int .i64 (L : Int)] w fun e w' => e = .returned (.int .i64 (if d.size ≤ L then (L : Int) - (d.size : Int) else -1)) ∧ Below w.heap.size w w' := by
  have hd' : d.size ≤ 9223372036854775807 := by unfold maxLen at hd; omega
  by_cases h : d.size ≤ L
  · rw [if_pos h]
    have hd0 : decide ((L : Int) - (d.size : Int) < 0) = false := by simp; omega
    go_enter Try.func14, Try.ntmps14
    go_wp2
    go_ret
    exact ⟨rfl, (Below.refl _ w).alloc (Nat.le_refl _) _⟩
  · rw [if_neg h]
    have hd0 : decide ((L : Int) - (d.size : Int) < 0) = true := by simp; omega
    go_enter Try.func14, Try.ntmps14
    go_wp2
    go_ret
    exact ⟨rfl, (Below.refl _ w).alloc (Nat.le_refl _) _⟩

theorem to_rcd (i q t : Int) (d : ByteArray) (w : World) :
    Calls Try.prog 16 #[rdV i q t d] w fun e w' => e = .returned (rdV i q t d) ∧ Below w.heap.size w w' := by
  go_enter Try.func16, Try.ntmps16
  go_wp2
  refine bodyPost_ret (v := rdV i q t d) (by simp [results, Try.results16, go_sem]) rfl ⟨rfl, (((Below.refl _ w).alloc (Nat.le_refl _) _).alloc (by simp) _).alloc (by simp; omega) _⟩

theorem eq_rcd (i q t : Int) (d : ByteArray) (w : World) :
    Calls Try.prog 59 #[rdV i q t d, rdV i q t d] w fun e w' => e = .returned (.bool true) ∧ Below w.heap.size w w' := by
  have hself : (d.toList == d.toList) = true := beq_self_eq_true _
  go_enter Try.func59, Try.ntmps59
  go_wp2
  go_ret
  exact ⟨rfl, ((Below.refl _ w).alloc (Nat.le_refl _) _).alloc (by simp) _⟩

theorem rd_spec (i q t : Int) (d : ByteArray) (w : World) :
    Calls Try.prog 51 #[rdV i q t d] w fun e w' => e = .returned (.bool (decide (RdOk i q t d))) ∧ Below w.heap.size w w' := by
  have HO := Lib.hid (show decide (RdOk i q t d) = (decide (0 ≤ i ∧ i ≤ 65535) && (decide (0 ≤ q ∧ q ≤ 3) && (decide (0 ≤ t ∧ t ≤ 1000000) && decide (d.size ≤ 34)))) by rw [Bool.eq_iff_iff]; simp only [Bool.and_eq_true, decide_eq_true_iff]; exact Iff.rfl)
  have HI := Lib.hid (in_anyP i 0 65535)
  have HQ := Lib.hid (in_anyP q 0 3)
  have HT := Lib.hid (in_anyP t 0 1000000)
  have hcast : decide ((d.size : Int) ≤ 34) = decide (d.size ≤ 34) := by rw [decide_eq_decide]; omega
  generalize decide (0 ≤ i ∧ i ≤ 65535) = I at *
  generalize decide (0 ≤ q ∧ q ≤ 3) = Q at *
  generalize decide (0 ≤ t ∧ t ≤ 1000000) = T at *
  cases I with
  | false =>
    go_enter Try.func51, Try.ntmps51
    go_wp2_with fail
    refine (HI.out _).mono ?_
    rintro e w' ⟨rfl, rfl⟩
    go_wp2
    go_ret
    exact ⟨by rw [HO.out]; simp, (Below.refl _ w).alloc (Nat.le_refl _) _⟩
  | true =>
    cases Q with
    | false =>
      go_enter Try.func51, Try.ntmps51
      go_wp2_with fail
      refine (HI.out _).mono ?_
      rintro e w' ⟨rfl, rfl⟩
      go_wp2_with fail
      refine (HQ.out _).mono ?_
      rintro e w' ⟨rfl, rfl⟩
      go_wp2
      go_ret
      exact ⟨by rw [HO.out]; simp, (Below.refl _ w).alloc (Nat.le_refl _) _⟩
    | true =>
      cases T with
      | false =>
        go_enter Try.func51, Try.ntmps51
        go_wp2_with fail
        refine (HI.out _).mono ?_
        rintro e w' ⟨rfl, rfl⟩
        go_wp2_with fail
        refine (HQ.out _).mono ?_
        rintro e w' ⟨rfl, rfl⟩
        go_wp2_with fail
        refine (HT.out _).mono ?_
        rintro e w' ⟨rfl, rfl⟩
        go_wp2
        go_ret
        exact ⟨by rw [HO.out]; simp, (Below.refl _ w).alloc (Nat.le_refl _) _⟩
      | true =>
        go_enter Try.func51, Try.ntmps51
        go_wp2_with fail
        refine (HI.out _).mono ?_
        rintro e w' ⟨rfl, rfl⟩
        go_wp2_with fail
        refine (HQ.out _).mono ?_
        rintro e w' ⟨rfl, rfl⟩
        go_wp2_with fail
        refine (HT.out _).mono ?_
        rintro e w' ⟨rfl, rfl⟩
        go_wp2
        go_ret
        exact ⟨by rw [HO.out]; simp, (Below.refl _ w).alloc (Nat.le_refl _) _⟩

theorem rd_impl (i q t : Int) (d : ByteArray) (w : World) :
    Calls Try.prog 53 #[rdV i q t d] w fun e w' => e = .returned (.bool (decide (RdOk i q t d))) ∧ Below w.heap.size w w' := by
  have HO := Lib.hid (show decide (RdOk i q t d) = (decide (0 ≤ i ∧ i ≤ 65535) && (decide (0 ≤ q ∧ q ≤ 3) && (decide (0 ≤ t ∧ t ≤ 1000000) && decide (d.size ≤ 34)))) by rw [Bool.eq_iff_iff]; simp only [Bool.and_eq_true, decide_eq_true_iff]; exact Iff.rfl)
  have HI := Lib.hid (iw_any i 0 65535)
  have HQ := Lib.hid (iw_any q 0 3)
  have HT := Lib.hid (iw_any t 0 1000000)
  have hcast : decide ((d.size : Int) ≤ 34) = decide (d.size ≤ 34) := by rw [decide_eq_decide]; omega
  generalize decide (0 ≤ i ∧ i ≤ 65535) = I at *
  generalize decide (0 ≤ q ∧ q ≤ 3) = Q at *
  generalize decide (0 ≤ t ∧ t ≤ 1000000) = T at *
  cases I with
  | false =>
    go_enter Try.func53, Try.ntmps53
    go_wp2_with fail
    refine (HI.out _).mono ?_
    rintro e w' ⟨rfl, rfl⟩
    go_wp2
    go_ret
    exact ⟨by rw [HO.out]; simp, (Below.refl _ w).alloc (Nat.le_refl _) _⟩
  | true =>
    cases Q with
    | false =>
      go_enter Try.func53, Try.ntmps53
      go_wp2_with fail
      refine (HI.out _).mono ?_
      rintro e w' ⟨rfl, rfl⟩
      go_wp2_with fail
      refine (HQ.out _).mono ?_
      rintro e w' ⟨rfl, rfl⟩
      go_wp2
      go_ret
      exact ⟨by rw [HO.out]; simp, (Below.refl _ w).alloc (Nat.le_refl _) _⟩
    | true =>
      cases T with
      | false =>
        go_enter Try.func53, Try.ntmps53
        go_wp2_with fail
        refine (HI.out _).mono ?_
        rintro e w' ⟨rfl, rfl⟩
        go_wp2_with fail
        refine (HQ.out _).mono ?_
        rintro e w' ⟨rfl, rfl⟩
        go_wp2_with fail
        refine (HT.out _).mono ?_
        rintro e w' ⟨rfl, rfl⟩
        go_wp2
        go_ret
        exact ⟨by rw [HO.out]; simp, (Below.refl _ w).alloc (Nat.le_refl _) _⟩
      | true =>
        go_enter Try.func53, Try.ntmps53
        go_wp2_with fail
        refine (HI.out _).mono ?_
        rintro e w' ⟨rfl, rfl⟩
        go_wp2_with fail
        refine (HQ.out _).mono ?_
        rintro e w' ⟨rfl, rfl⟩
        go_wp2_with fail
        refine (HT.out _).mono ?_
        rintro e w' ⟨rfl, rfl⟩
        go_wp2
        go_ret
        exact ⟨by rw [HO.out]; simp, (Below.refl _ w).alloc (Nat.le_refl _) _⟩

end Go.Proofs.Ytebfefkknaalpab
