/- What this text proves: the contract of the model's PutWord. -/
import Derived.Test.YtggfmimnmpanbaaPut
import Derived.Test.YtggfmimnmpanbaaBuf
namespace Go.Proofs.Ytggfmimnmpanbaa
open Go.ChangeShapes Go.WideShapes Go.ChangeAt Go.RowKit
set_option linter.unusedVariables false

theorem putB_len (n k : Nat) : (putB n k).length = k := by
  induction k with
  | zero => rfl
  | succ k ih => simp [putB, ih]
theorem putB_take (n k m : Nat) (h : m < k) : (putB n k).take (k - m) = (putB n k).take (k - (m + 1)) ++ [byteN n m] := by
  induction k with
  | zero => omega
  | succ k ih =>
    by_cases hm : m = k
    · subst hm
      rw [show m + 1 - m = 1 from by omega, show m + 1 - (m + 1) = 0 from by omega]
      rfl
    · rw [show k + 1 - m = (k - m) + 1 from by omega, show k + 1 - (m + 1) = (k - (m + 1)) + 1 from by omega]
      simp only [putB, List.take_succ_cons, List.cons_append]
      rw [ih (by omega)]

def PutOk (n k : Int) : Prop := 1 ≤ k ∧ k ≤ 4 ∧ 0 ≤ n ∧ n < 256 ^ k.toNat

theorem put_impl_yes (n k : Nat) (h1 : 1 ≤ k) (h4 : k ≤ 4) (hn : n < 256 ^ k) (w : World) :
    Calls Try.prog 87 #[.int .i64 n, .int .i64 k] w fun e w' => e = .returned (.string ⟨(putB n k).toArray⟩) ∧ Below w.heap.size w w' := by
  obtain rfl | rfl | rfl | rfl : k = 1 ∨ k = 2 ∨ k = 3 ∨ k = 4 := by omega
  · exact put_impl1_in n (by omega) (by simpa using hn) w
  · exact put_impl2_in n (by omega) (by simpa using hn) w
  · exact put_impl3_in n (by omega) (by simpa using hn) w
  · exact put_impl4_in n (by omega) (by simpa using hn) w
theorem put_impl_no (n k : Int) (h : ¬ PutOk n k) (w : World) :
    Calls Try.prog 87 #[.int .i64 n, .int .i64 k] w fun e w' => e = .returned (.string ⟨#[]⟩) ∧ Below w.heap.size w w' := by
  unfold PutOk at h
  by_cases h1 : k < 1
  · have hd1 : decide (k < 1) = true := by simp; omega
    clear h h1
    go_enter Try.func87, Try.ntmps87
    go_wp2
    go_ret
    exact ⟨rfl, Below.refl _ _⟩
  · have hd1 : decide (k < 1) = false := by simp; omega
    by_cases h2 : 4 < k
    · have hd2 : decide (4 < k) = true := by simp; omega
      clear h h1 h2
      go_enter Try.func87, Try.ntmps87
      go_wp2
      go_ret
      exact ⟨rfl, Below.refl _ _⟩
    · have hd2 : decide (4 < k) = false := by simp; omega
      by_cases h3 : n < 0
      · have hd3 : decide (n < 0) = true := by simp; omega
        clear h h1 h2 h3
        go_enter Try.func87, Try.ntmps87
        go_wp2
        go_ret
        exact ⟨rfl, Below.refl _ _⟩
      · have hd3 : decide (n < 0) = false := by simp; omega
        by_cases h4 : 4294967295 < n
        · have hd4 : decide (4294967295 < n) = true := by simp; omega
          clear h h1 h2 h3 h4
          go_enter Try.func87, Try.ntmps87
          go_wp2
          go_ret
          exact ⟨rfl, Below.refl _ _⟩
        · obtain ⟨m, rfl⟩ := Int.eq_ofNat_of_zero_le (show 0 ≤ n by omega)
          clear hd1 hd2 hd3
          obtain rfl | rfl | rfl | rfl : k = 1 ∨ k = 2 ∨ k = 3 ∨ k = 4 := by omega
          · exact put_impl1_out m (by omega) (fun hm => h ⟨by omega, by omega, by omega, by simp; omega⟩) w
          · exact put_impl2_out m (by omega) (fun hm => h ⟨by omega, by omega, by omega, by simp; omega⟩) w
          · exact put_impl3_out m (by omega) (fun hm => h ⟨by omega, by omega, by omega, by simp; omega⟩) w
          · exact absurd ⟨by omega, by omega, by omega, by simp; omega⟩ h

/-- What PutWord returns. -/
noncomputable def putS (n k : Int) : ByteArray := open Classical in if PutOk n k then ⟨(putB n.toNat k.toNat).toArray⟩ else ⟨#[]⟩
theorem put_impl (n k : Int) (w : World) :
    Calls Try.prog 87 #[.int .i64 n, .int .i64 k] w fun e w' => e = .returned (.string (putS n k)) ∧ Below w.heap.size w w' := by
  by_cases h : PutOk n k
  · unfold putS
    rw [if_pos h]
    obtain ⟨m, rfl⟩ := Int.eq_ofNat_of_zero_le h.2.2.1
    obtain ⟨j, rfl⟩ := Int.eq_ofNat_of_zero_le (show 0 ≤ k by have := h.1; omega)
    have h4 : (m : Int) < ((256 ^ j : Nat) : Int) := by have h4 := h.2.2.2; rw [Int.toNat_natCast] at h4; rw [Int.natCast_pow]; exact h4
    exact put_impl_yes m j (by have := h.1; omega) (by have := h.2.1; omega) (by omega) w
  · unfold putS
    rw [if_neg h]
    exact put_impl_no n k h w
end Go.Proofs.Ytggfmimnmpanbaa
