/- What this text proves: the contracts of the laws' own functions over one command that waits. -/
import Derived.Test.YtmmedhjmilgnbabPktE
namespace Go.Proofs.Ytmmedhjmilgnbab
open Go.ChangeShapes Go.WideShapes Go.ChangeAt Go.RowKit
set_option linter.unusedVariables false

/-- A command that waits, as a value. -/
abbrev snV (q : Int) (d : ByteArray) : Value := .agg #[.int .i64 q, .string d]
abbrev snL (q : Int) (d : ByteArray) : List Value := [.int .i64 q, .string d]
theorem sz_snt (q : Int) (d : ByteArray) (L : Nat) (hL : L ≤ 1048576) (hd : d.size ≤ maxLen) (w : World) :
    Calls Try.prog 36 #[snV q d, .int .i64 (L : Int)] w fun e w' => e = .returned (.int .i64 (if d.size ≤ L then (L : Int) - (d.size : Int) else -1)) ∧ Below w.heap.size w w' := by
  have hd' : d.size ≤ 9223372036854775807 := by unfold maxLen at hd; omega
  by_cases h : d.size ≤ L
  · rw [if_pos h]
    have hd0 : decide ((L : Int) - (d.size : Int) < 0) = false := by simp; omega
    go_enter Try.func36, Try.ntmps36
    go_wp2
    go_ret
    exact ⟨rfl, (Below.refl _ w).alloc (Nat.le_refl _) _⟩
  · rw [if_neg h]
    have hd0 : decide ((L : Int) - (d.size : Int) < 0) = true := by simp; omega
    go_enter Try.func36, Try.ntmps36
    go_wp2
    go_ret
    exact ⟨rfl, (Below.refl _ w).alloc (Nat.le_refl _) _⟩
theorem to_snt (q : Int) (d : ByteArray) (w : World) :
    Calls Try.prog 37 #[snV q d] w fun e w' => e = .returned (snV q d) ∧ Below w.heap.size w w' := by
  go_enter Try.func37, Try.ntmps37
  go_wp2
  refine bodyPost_ret (v := snV q d) (by simp [results, Try.results37, go_sem]) rfl ⟨rfl, (((Below.refl _ w).alloc (Nat.le_refl _) _).alloc (by simp) _).alloc (by simp; omega) _⟩
theorem eq_snt (q : Int) (d : ByteArray) (w : World) :
    Calls Try.prog 40 #[snV q d, snV q d] w fun e w' => e = .returned (.bool true) ∧ Below w.heap.size w w' := by
  have hself : (d.toList == d.toList) = true := beq_self_eq_true _
  go_enter Try.func40, Try.ntmps40
  go_wp2
  go_ret
  exact ⟨rfl, ((Below.refl _ w).alloc (Nat.le_refl _) _).alloc (by simp) _⟩
end Go.Proofs.Ytmmedhjmilgnbab
