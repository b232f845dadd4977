/- What this text proves: the parts Ord, El5 of the proof, each under its own words. -/
import Derived.Test.YtckofkdeedbbgaaNN00
import Derived.Test.YtckofkdeedbbgaaNN03
import Derived.BigQuiet
import Derived.Laws.Concat
import Derived.BigRegion
import Derived.Outline
import Derived.Deep.MidRow
/- What this text proves: orders as values; the laws' own functions over them; the contracts of the model's and the program's OrderOk. -/
namespace Go.Proofs.Ytckofkdeedbbgaa
open Go.ChangeShapes Go.WideShapes Go.ChangeAt Go.RowKit
set_option linter.unusedVariables false


abbrev orV (k t a b : Int) : Value := .agg #[.int .i64 k, .int .i64 t, .int .i64 a, .int .i64 b]
abbrev orL (k t a b : Int) : List Value := [.int .i64 k, .int .i64 t, .int .i64 a, .int .i64 b]
/-- The greatest A of the orders of a kind. -/
def hiA (k : Int) : Int := if k = 0 then 7 else if k = 1 then 3 else if k = 2 then 1 else if k = 3 then 7 else if k = 4 then 255 else -1
def hiB (k : Int) : Int := if k = 0 then 65535 else 0
def OrOk (k t a b : Int) : Prop := (0 ≤ t ∧ t ≤ 1000000) ∧ (0 ≤ a ∧ a ≤ hiA k) ∧ (0 ≤ b ∧ b ≤ hiB k)
instance (k t a b : Int) : Decidable (OrOk k t a b) := by unfold OrOk; infer_instance
theorem OrOk.kind {k t a b : Int} (h : OrOk k t a b) : 0 ≤ k ∧ k ≤ 4 := by
  obtain ⟨_, h2, _⟩ := h
  unfold hiA at h2
  repeat (split at h2 <;> try omega)
theorem OrOk.low {k t a b : Int} (h : OrOk k t a b) : (0 ≤ t ∧ t ≤ 1000000) ∧ (0 ≤ a ∧ a ≤ 255) ∧ (0 ≤ b ∧ b ≤ 65535) := by
  obtain ⟨h1, h2, h3⟩ := h
  refine ⟨h1, ⟨h2.1, ?_⟩, h3.1, ?_⟩
  · unfold hiA at h2
    repeat (split at h2 <;> try omega)
  · unfold hiB at h3
    split at h3 <;> omega
abbrev Cells4O (W : World) (g : Nat) (x y z u : Value) : Prop := W.cell? ⟨g, 0, none⟩ = some x ∧ W.cell? ⟨g, 1, none⟩ = some y ∧ W.cell? ⟨g, 2, none⟩ = some z ∧ W.cell? ⟨g, 3, none⟩ = some u
theorem Box.four4 {W : World} {g : Nat} {x y z u : Value} (h : Box W g [x, y, z, u]) : Cells4O W g x y z u := ⟨h.cell 0 (by simp), h.cell 1 (by simp), h.cell 2 (by simp), h.cell 3 (by simp)⟩

theorem eq_ord (k t a b : Int) (w : World) :
    Calls Try.prog 163 #[orV k t a b, orV k t a b] w fun e w' => e = .returned (.bool true) ∧ Below w.heap.size w w' := by
  go_enter Try.func163, Try.ntmps163
  go_wp2
  go_ret
  exact ⟨rfl, ((Below.refl _ w).alloc (Nat.le_refl _) _).alloc (by simp) _⟩

theorem or_kinds {k : Int} (h : 0 ≤ k ∧ k ≤ 4) : k = 0 ∨ k = 1 ∨ k = 2 ∨ k = 3 ∨ k = 4 := by omega
theorem zero_bool (b : Int) : decide (0 ≤ b ∧ b ≤ 0) = (b == 0) := by rw [Bool.eq_iff_iff]; simp; omega

set_option maxHeartbeats 2000000 in
theorem or_spec (k t a b : Int) (w : World) :
    Calls Try.prog 162 #[orV k t a b] w fun e w' => e = .returned (.bool (decide (OrOk k t a b))) ∧ Below w.heap.size w w' := by
  have HO := Lib.hid (show decide (OrOk k t a b) = (decide (0 ≤ t ∧ t ≤ 1000000) && (decide (0 ≤ a ∧ a ≤ hiA k) && decide (0 ≤ b ∧ b ≤ hiB k))) by rw [Bool.eq_iff_iff]; simp only [Bool.and_eq_true, decide_eq_true_iff]; exact Iff.rfl)
  have HT := Lib.hid (in_anyP t 0 1000000)
  by_cases hk : 0 ≤ k ∧ k ≤ 4
  · have HK := Lib.hid (in_yes k 0 4 hk.1 hk.2)
    generalize decide (0 ≤ t ∧ t ≤ 1000000) = T at *
    cases T with
    | false =>
      clear hk
      go_enter Try.func162, Try.ntmps162
      go_wp2_with fail
      refine (HK.out _).mono ?_
      rintro e w' ⟨rfl, rfl⟩
      go_wp2_with fail
      refine (HT.out _).mono ?_
      rintro e w' ⟨rfl, rfl⟩
      go_wp2
      go_ret
      exact ⟨by rw [HO.out]; rfl, (Below.refl _ w).alloc (Nat.le_refl _) _⟩
    | true =>
      obtain rfl | rfl | rfl | rfl | rfl := or_kinds hk
      · have HA := Lib.hid (in_anyP a 0 7)
        have HO2 := Lib.hid (show decide (OrOk 0 t a b) = (decide (0 ≤ a ∧ a ≤ 7) && decide (0 ≤ b ∧ b ≤ 65535)) by rw [HO.out]; simp [hiA, hiB])
        have HB := Lib.hid (in_anyP b 0 65535)
        clear HO hk
        generalize decide (0 ≤ a ∧ a ≤ 7) = A at *
        generalize decide (0 ≤ b ∧ b ≤ 65535) = B at *
        cases A with
        | false =>
          go_enter Try.func162, Try.ntmps162
          go_wp2_with fail
          refine (HK.out _).mono ?_
          rintro e w' ⟨rfl, rfl⟩
          go_wp2_with fail
          refine (HT.out _).mono ?_
          rintro e w' ⟨rfl, rfl⟩
          go_wp2_with fail
          refine (HA.out _).mono ?_
          rintro e w' ⟨rfl, rfl⟩
          go_wp2
          go_ret
          exact ⟨by rw [HO2.out]; rfl, (Below.refl _ w).alloc (Nat.le_refl _) _⟩
        | true =>
          go_enter Try.func162, Try.ntmps162
          go_wp2_with fail
          refine (HK.out _).mono ?_
          rintro e w' ⟨rfl, rfl⟩
          go_wp2_with fail
          refine (HT.out _).mono ?_
          rintro e w' ⟨rfl, rfl⟩
          go_wp2_with fail
          refine (HA.out _).mono ?_
          rintro e w' ⟨rfl, rfl⟩
          go_wp2_with fail
          refine (HB.out _).mono ?_
          rintro e w' ⟨rfl, rfl⟩
          go_wp2
          go_ret
          exact ⟨by rw [HO2.out]; rfl, (Below.refl _ w).alloc (Nat.le_refl _) _⟩
      · have HA := Lib.hid (in_anyP a 0 3)
        have HO2 := Lib.hid (show decide (OrOk 1 t a b) = (decide (0 ≤ a ∧ a ≤ 3) && (b == 0)) by rw [HO.out]; rw [← zero_bool]; simp [hiA, hiB])
        clear HO hk
        generalize decide (0 ≤ a ∧ a ≤ 3) = A at *
        cases A with
        | false =>
          go_enter Try.func162, Try.ntmps162
          go_wp2_with fail
          refine (HK.out _).mono ?_
          rintro e w' ⟨rfl, rfl⟩
          go_wp2_with fail
          refine (HT.out _).mono ?_
          rintro e w' ⟨rfl, rfl⟩
          go_wp2_with fail
          refine (HA.out _).mono ?_
          rintro e w' ⟨rfl, rfl⟩
          go_wp2
          go_ret
          exact ⟨by rw [HO2.out]; rfl, (Below.refl _ w).alloc (Nat.le_refl _) _⟩
        | true =>
          go_enter Try.func162, Try.ntmps162
          go_wp2_with fail
          refine (HK.out _).mono ?_
          rintro e w' ⟨rfl, rfl⟩
          go_wp2_with fail
          refine (HT.out _).mono ?_
          rintro e w' ⟨rfl, rfl⟩
          go_wp2_with fail
          refine (HA.out _).mono ?_
          rintro e w' ⟨rfl, rfl⟩
          go_wp2
          go_ret
          exact ⟨by rw [HO2.out]; rfl, (Below.refl _ w).alloc (Nat.le_refl _) _⟩
      · have HA := Lib.hid (in_anyP a 0 1)
        have HO2 := Lib.hid (show decide (OrOk 2 t a b) = (decide (0 ≤ a ∧ a ≤ 1) && (b == 0)) by rw [HO.out]; rw [← zero_bool]; simp [hiA, hiB])
        clear HO hk
        generalize decide (0 ≤ a ∧ a ≤ 1) = A at *
        cases A with
        | false =>
          go_enter Try.func162, Try.ntmps162
          go_wp2_with fail
          refine (HK.out _).mono ?_
          rintro e w' ⟨rfl, rfl⟩
          go_wp2_with fail
          refine (HT.out _).mono ?_
          rintro e w' ⟨rfl, rfl⟩
          go_wp2_with fail
          refine (HA.out _).mono ?_
          rintro e w' ⟨rfl, rfl⟩
          go_wp2
          go_ret
          exact ⟨by rw [HO2.out]; rfl, (Below.refl _ w).alloc (Nat.le_refl _) _⟩
        | true =>
          go_enter Try.func162, Try.ntmps162
          go_wp2_with fail
          refine (HK.out _).mono ?_
          rintro e w' ⟨rfl, rfl⟩
          go_wp2_with fail
          refine (HT.out _).mono ?_
          rintro e w' ⟨rfl, rfl⟩
          go_wp2_with fail
          refine (HA.out _).mono ?_
          rintro e w' ⟨rfl, rfl⟩
          go_wp2
          go_ret
          exact ⟨by rw [HO2.out]; rfl, (Below.refl _ w).alloc (Nat.le_refl _) _⟩
      · have HA := Lib.hid (in_anyP a 0 7)
        have HO2 := Lib.hid (show decide (OrOk 3 t a b) = (decide (0 ≤ a ∧ a ≤ 7) && (b == 0)) by rw [HO.out]; rw [← zero_bool]; simp [hiA, hiB])
        clear HO hk
        generalize decide (0 ≤ a ∧ a ≤ 7) = A at *
        cases A with
        | false =>
          go_enter Try.func162, Try.ntmps162
          go_wp2_with fail
          refine (HK.out _).mono ?_
          rintro e w' ⟨rfl, rfl⟩
          go_wp2_with fail
          refine (HT.out _).mono ?_
          rintro e w' ⟨rfl, rfl⟩
          go_wp2_with fail
          refine (HA.out _).mono ?_
          rintro e w' ⟨rfl, rfl⟩
          go_wp2
          go_ret
          exact ⟨by rw [HO2.out]; rfl, (Below.refl _ w).alloc (Nat.le_refl _) _⟩
        | true =>
          go_enter Try.func162, Try.ntmps162
          go_wp2_with fail
          refine (HK.out _).mono ?_
          rintro e w' ⟨rfl, rfl⟩
          go_wp2_with fail
          refine (HT.out _).mono ?_
          rintro e w' ⟨rfl, rfl⟩
          go_wp2_with fail
          refine (HA.out _).mono ?_
          rintro e w' ⟨rfl, rfl⟩
          go_wp2
          go_ret
          exact ⟨by rw [HO2.out]; rfl, (Below.refl _ w).alloc (Nat.le_refl _) _⟩
      · have HA := Lib.hid (in_anyP a 0 255)
        have HO2 := Lib.hid (show decide (OrOk 4 t a b) = (decide (0 ≤ a ∧ a ≤ 255) && (b == 0)) by rw [HO.out]; rw [← zero_bool]; simp [hiA, hiB])
        clear HO hk
        generalize decide (0 ≤ a ∧ a ≤ 255) = A at *
        cases A with
        | false =>
          go_enter Try.func162, Try.ntmps162
          go_wp2_with fail
          refine (HK.out _).mono ?_
          rintro e w' ⟨rfl, rfl⟩
          go_wp2_with fail
          refine (HT.out _).mono ?_
          rintro e w' ⟨rfl, rfl⟩
          go_wp2_with fail
          refine (HA.out _).mono ?_
          rintro e w' ⟨rfl, rfl⟩
          go_wp2
          go_ret
          exact ⟨by rw [HO2.out]; rfl, (Below.refl _ w).alloc (Nat.le_refl _) _⟩
        | true =>
          go_enter Try.func162, Try.ntmps162
          go_wp2_with fail
          refine (HK.out _).mono ?_
          rintro e w' ⟨rfl, rfl⟩
          go_wp2_with fail
          refine (HT.out _).mono ?_
          rintro e w' ⟨rfl, rfl⟩
          go_wp2_with fail
          refine (HA.out _).mono ?_
          rintro e w' ⟨rfl, rfl⟩
          go_wp2
          go_ret
          exact ⟨by rw [HO2.out]; rfl, (Below.refl _ w).alloc (Nat.le_refl _) _⟩
  · have HK := Lib.hid (in_no k 0 4 hk)
    have HN := Lib.hid (decide_eq_false (fun h : OrOk k t a b => hk h.kind))
    clear hk HO
    go_enter Try.func162, Try.ntmps162
    go_wp2_with fail
    refine (HK.out _).mono ?_
    rintro e w' ⟨rfl, rfl⟩
    go_wp2
    go_ret
    exact ⟨by rw [HN.out]; rfl, (Below.refl _ w).alloc (Nat.le_refl _) _⟩

theorem hiA_impl (k : Int) (w : World) :
    Calls Try.prog 120 #[.int .i64 k] w fun e w' => e = .returned (.int .i64 (hiA k)) ∧ w = w' := by
  by_cases hk : 0 ≤ k ∧ k ≤ 4
  · obtain rfl | rfl | rfl | rfl | rfl := or_kinds hk
    · clear hk
      go_enter Try.func120, Try.ntmps120
      go_wp2
      go_ret
      exact ⟨rfl, rfl⟩
    · clear hk
      go_enter Try.func120, Try.ntmps120
      go_wp2
      go_ret
      exact ⟨rfl, rfl⟩
    · clear hk
      go_enter Try.func120, Try.ntmps120
      go_wp2
      go_ret
      exact ⟨rfl, rfl⟩
    · clear hk
      go_enter Try.func120, Try.ntmps120
      go_wp2
      go_ret
      exact ⟨rfl, rfl⟩
    · clear hk
      go_enter Try.func120, Try.ntmps120
      go_wp2
      go_ret
      exact ⟨rfl, rfl⟩
  · have h0 : ¬ k = 0 := by omega
    have h1 : ¬ k = 1 := by omega
    have h2 : ¬ k = 2 := by omega
    have h3 : ¬ k = 3 := by omega
    have h4 : ¬ k = 4 := by omega
    have HN := Lib.hid (show hiA k = -1 by unfold hiA; rw [if_neg h0, if_neg h1, if_neg h2, if_neg h3, if_neg h4])
    clear hk
    go_enter Try.func120, Try.ntmps120
    go_wp2
    go_ret
    exact ⟨by rw [HN.out]; rfl, rfl⟩
theorem iw_any (a b c : Int) (w : World) :
    Calls Try.prog 60 #[.int .i64 a, .int .i64 b, .int .i64 c] w fun e w' => e = .returned (.bool (decide (b ≤ a ∧ a ≤ c))) ∧ w = w' := by
  by_cases h : b ≤ a ∧ a ≤ c
  · rw [decide_eq_true h]
    exact iw_yes a b c h.1 h.2 w
  · rw [decide_eq_false h]
    exact iw_no a b c h w

set_option maxHeartbeats 2000000 in
theorem or_impl (k t a b : Int) (w : World) :
    Calls Try.prog 55 #[orV k t a b] w fun e w' => e = .returned (.bool (decide (OrOk k t a b))) ∧ Below w.heap.size w w' := by
  have HO := Lib.hid (show decide (OrOk k t a b) = (decide (0 ≤ t ∧ t ≤ 1000000) && (decide (0 ≤ a ∧ a ≤ hiA k) && decide (0 ≤ b ∧ b ≤ hiB k))) by rw [Bool.eq_iff_iff]; simp only [Bool.and_eq_true, decide_eq_true_iff]; exact Iff.rfl)
  have HT := Lib.hid (iw_any t 0 1000000)
  have HH := Lib.hid (hiA_impl k)
  have HA := Lib.hid (iw_any a 0 (hiA k))
  have HB := Lib.hid (iw_any b 0 (hiB k))
  generalize hiA k = K at *
  generalize decide (0 ≤ t ∧ t ≤ 1000000) = T at *
  generalize decide (0 ≤ a ∧ a ≤ K) = A at *
  generalize decide (0 ≤ b ∧ b ≤ hiB k) = B at *
  by_cases hk : k = 0
  · subst hk
    rw [show hiB 0 = 65535 from rfl] at HB
    cases T with
    | false =>
      go_enter Try.func55, Try.ntmps55
      go_wp2
      go_quiet ((first | (go_at_call 60; (with_reducible exact Calls.quiet_of_same ((HT.out _).mono fun _ _ h => ⟨h.1, h.2.symm⟩)))))
      go_wp2
      go_ret
      exact ⟨by rw [HO.out]; rfl, below_draws ((Below.refl _ w).alloc (Nat.le_refl _) _) _⟩
    | true =>
      cases A with
      | false =>
        go_enter Try.func55, Try.ntmps55
        go_wp2
        go_quiet ((first | (go_at_call 60; (with_reducible exact Calls.quiet_of_same ((HT.out _).mono fun _ _ h => ⟨h.1, h.2.symm⟩))) | (go_at_call 120; (with_reducible exact Calls.quiet_of_same ((HH.out _).mono fun _ _ h => ⟨h.1, h.2.symm⟩))) | (go_at_call 60; (with_reducible exact Calls.quiet_of_same ((HA.out _).mono fun _ _ h => ⟨h.1, h.2.symm⟩)))))
        go_wp2
        go_ret
        exact ⟨by rw [HO.out]; rfl, below_draws ((Below.refl _ w).alloc (Nat.le_refl _) _) _⟩
      | true =>
        go_enter Try.func55, Try.ntmps55
        go_wp2
        go_quiet ((first | (go_at_call 60; (with_reducible exact Calls.quiet_of_same ((HT.out _).mono fun _ _ h => ⟨h.1, h.2.symm⟩))) | (go_at_call 120; (with_reducible exact Calls.quiet_of_same ((HH.out _).mono fun _ _ h => ⟨h.1, h.2.symm⟩))) | (go_at_call 60; (with_reducible exact Calls.quiet_of_same ((HA.out _).mono fun _ _ h => ⟨h.1, h.2.symm⟩))) | (go_at_call 60; (with_reducible exact Calls.quiet_of_same ((HB.out _).mono fun _ _ h => ⟨h.1, h.2.symm⟩)))))
        go_wp2
        go_ret
        exact ⟨by rw [HO.out]; rfl, below_draws ((Below.refl _ w).alloc (Nat.le_refl _) _) _⟩
  · have hk2 : ¬ k = 0 := hk
    rw [show hiB k = 0 from if_neg hk] at HB
    have hkd := decide_eq_false hk
    cases T with
    | false =>
      go_enter Try.func55, Try.ntmps55
      go_wp2
      go_quiet ((first | (go_at_call 60; (with_reducible exact Calls.quiet_of_same ((HT.out _).mono fun _ _ h => ⟨h.1, h.2.symm⟩)))))
      go_wp2
      go_ret
      exact ⟨by rw [HO.out]; rfl, below_draws ((Below.refl _ w).alloc (Nat.le_refl _) _) _⟩
    | true =>
      cases A with
      | false =>
        go_enter Try.func55, Try.ntmps55
        go_wp2
        go_quiet ((first | (go_at_call 60; (with_reducible exact Calls.quiet_of_same ((HT.out _).mono fun _ _ h => ⟨h.1, h.2.symm⟩))) | (go_at_call 120; (with_reducible exact Calls.quiet_of_same ((HH.out _).mono fun _ _ h => ⟨h.1, h.2.symm⟩))) | (go_at_call 60; (with_reducible exact Calls.quiet_of_same ((HA.out _).mono fun _ _ h => ⟨h.1, h.2.symm⟩)))))
        go_wp2
        go_ret
        exact ⟨by rw [HO.out]; rfl, below_draws ((Below.refl _ w).alloc (Nat.le_refl _) _) _⟩
      | true =>
        go_enter Try.func55, Try.ntmps55
        go_wp2
        go_quiet ((first | (go_at_call 60; (with_reducible exact Calls.quiet_of_same ((HT.out _).mono fun _ _ h => ⟨h.1, h.2.symm⟩))) | (go_at_call 120; (with_reducible exact Calls.quiet_of_same ((HH.out _).mono fun _ _ h => ⟨h.1, h.2.symm⟩))) | (go_at_call 60; (with_reducible exact Calls.quiet_of_same ((HA.out _).mono fun _ _ h => ⟨h.1, h.2.symm⟩))) | (go_at_call 60; (with_reducible exact Calls.quiet_of_same ((HB.out _).mono fun _ _ h => ⟨h.1, h.2.symm⟩)))))
        go_wp2
        go_ret
        exact ⟨by rw [HO.out]; rfl, below_draws ((Below.refl _ w).alloc (Nat.le_refl _) _) _⟩
end Go.Proofs.Ytckofkdeedbbgaa
/- What this text proves: limits, orders that wait and orders that are done as values; the laws' own functions over one of them. -/
namespace Go.Proofs.Ytckofkdeedbbgaa
open Go.ChangeShapes Go.WideShapes Go.ChangeAt Go.RowKit
set_option linter.unusedVariables false

abbrev lmV (a b c : Int) : Value := .agg #[.int .i64 a, .int .i64 b, .int .i64 c]
theorem to_lm (a b c : Int) (w : World) :
    Calls Try.prog 110 #[lmV a b c] w fun e w' => e = .returned (lmV a b c) ∧ Below w.heap.size w w' := by
  go_enter Try.func110, Try.ntmps110
  go_wp2
  refine bodyPost_ret (v := lmV a b c) (by simp [results, Try.results110, go_sem]) rfl ⟨rfl, (((Below.refl _ w).alloc (Nat.le_refl _) _).alloc (by simp) _).alloc (by simp; omega) _⟩

theorem eq_lm (a b c : Int) (w : World) :
    Calls Try.prog 113 #[lmV a b c, lmV a b c] w fun e w' => e = .returned (.bool true) ∧ Below w.heap.size w w' := by
  go_enter Try.func113, Try.ntmps113
  go_wp2
  go_ret
  exact ⟨rfl, ((Below.refl _ w).alloc (Nat.le_refl _) _).alloc (by simp) _⟩

abbrev dnV (a b c : Int) : Value := .agg #[.int .i64 a, .int .i64 b, .int .i64 c]
theorem eq_dn (a b c : Int) (w : World) :
    Calls Try.prog 153 #[dnV a b c, dnV a b c] w fun e w' => e = .returned (.bool true) ∧ Below w.heap.size w w' := by
  go_enter Try.func153, Try.ntmps153
  go_wp2
  go_ret
  exact ⟨rfl, ((Below.refl _ w).alloc (Nat.le_refl _) _).alloc (by simp) _⟩

abbrev wtV (n k t a b : Int) : Value := .agg #[.int .i64 n, .int .i64 k, .int .i64 t, .int .i64 a, .int .i64 b]
abbrev wtL (n k t a b : Int) : List Value := [.int .i64 n, .int .i64 k, .int .i64 t, .int .i64 a, .int .i64 b]
abbrev Cells5 (W : World) (g : Nat) (x y z u v : Value) : Prop := W.cell? ⟨g, 0, none⟩ = some x ∧ W.cell? ⟨g, 1, none⟩ = some y ∧ W.cell? ⟨g, 2, none⟩ = some z ∧ W.cell? ⟨g, 3, none⟩ = some u ∧ W.cell? ⟨g, 4, none⟩ = some v
theorem Box.five5 {W : World} {g : Nat} {x y z u v : Value} (h : Box W g [x, y, z, u, v]) : Cells5 W g x y z u v := ⟨h.cell 0 (by simp), h.cell 1 (by simp), h.cell 2 (by simp), h.cell 3 (by simp), h.cell 4 (by simp)⟩

theorem eq_wt (n k t a b : Int) (w : World) :
    Calls Try.prog 152 #[wtV n k t a b, wtV n k t a b] w fun e w' => e = .returned (.bool true) ∧ Below w.heap.size w w' := by
  have HT := Lib.hid (eq_ord k t a b)
  have B0 := (((Below.refl _ w).alloc (Nat.le_refl _) (.cells (wtL n k t a b).toArray 43)).alloc (by simp) (.cells (wtL n k t a b).toArray 43))
  have hz := B0.size
  go_enter Try.func152, Try.ntmps152
  go_wp2_with fail
  refine (HT.out _).mono ?_
  rintro e w2 ⟨rfl, hb⟩
  have HB := Lib.hid (B0.trans (hb.mono hz))
  clear hb B0 hz
  go_wp2
  go_ret
  exact ⟨rfl, HB.out⟩

end Go.Proofs.Ytckofkdeedbbgaa
