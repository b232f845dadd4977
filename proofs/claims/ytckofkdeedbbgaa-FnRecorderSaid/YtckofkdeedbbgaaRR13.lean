/- What this text proves: the parts Bytes of the proof, each under its own words. -/
import Derived.Test.YtckofkdeedbbgaaRR03
import Derived.Test.YtckofkdeedbbgaaRR12
import Derived.LoopTactic
import Derived.IntWalk
/- What this text proves: the contract of GetWord: program and model both return, for every text, index and size, the value of the bytes from the index on, the highest ones first, or 0 and false if they are not there. -/
namespace Go.Proofs.Ytckofkdeedbbgaa
open Go.ChangeShapes Go.WideShapes Go.ChangeAt Go.RowKit
set_option linter.unusedVariables false

/-- The value of k bytes from an index on, the highest first. -/
def valW (s : ByteArray) (i : Nat) : Nat → Nat
  | 0 => 0
  | k + 1 => 256 * valW s i k + byteAt s (i + k)
theorem valW_lt (s : ByteArray) (i k : Nat) : valW s i k < 256 ^ k := by
  induction k with
  | zero => simp [valW]
  | succ k ih => have := byteAt_lt s (i + k); simp only [valW, Nat.pow_succ]; omega
theorem valW_small (s : ByteArray) (i k : Nat) (h : k ≤ 4) : valW s i k < 4294967296 :=
  Nat.lt_of_lt_of_le (valW_lt s i k) (Nat.pow_le_pow_right (n := 256) (by decide) h)

def GetOk (s : ByteArray) (a n : Int) : Prop := 1 ≤ n ∧ n ≤ 4 ∧ 0 ≤ a ∧ a + n ≤ s.size
set_option maxHeartbeats 400000 in
theorem get_yes_impl (s : ByteArray) (i k : Nat) (hk1 : 1 ≤ k) (hk4 : k ≤ 4) (hi : i + k ≤ s.size) (hs : s.size ≤ maxLen) (w : World) :
    Calls Try.prog 141 #[.string s, .int .i64 i, .int .i64 k] w fun e w' => e = .returned (.tuple #[.int .i64 (valW s i k : Nat), .bool true]) ∧ w = w' := by
  unfold maxLen at hs
  have hd1 : decide ((k : Int) < 1) = false := by simp; omega
  have hd2 : decide ((4 : Int) < (k : Int)) = false := by simp; omega
  have hd3 : decide ((i : Int) < 0) = false := by simp
  have hd4 : decide ((s.size : Int) - (k : Int) < (i : Int)) = false := by simp; omega
  go_enter Try.func141, Try.ntmps141
  go_wp2
  go_loop [8, 29] (fun n t => ∃ j : Nat, j ≤ k ∧ t = .int .i64 j ∧ n = .int .i64 (valW s i j : Nat)) (fun _ t => k - (intOf t).toNat)
  case atStart => exact ⟨0, by omega, rfl, rfl⟩
  case round =>
    obtain ⟨j, hj, rfl, rfl⟩ := hrel
    by_cases hlt : j < k
    · have hv := valW_small s i j (by omega)
      have hv0 : (0 : Int) ≤ (valW s i j : Int) := by omega
      go_wp2
      refine ⟨⟨j + 1, by omega, by go_num, ?_⟩, by simp [intOf]; omega⟩
      rw [or_byte _ _ (by omega) (UInt8.toNat_lt _), byteAt_of s (i + j) (by omega)]
      rfl
    · have hd : decide (j < k) = false := by simp; omega
      have hjk : j = k := by omega
      subst hjk
      clear hj hlt
      go_wp2
      go_ret2
      exact ⟨rfl, rfl⟩

theorem get_no_impl (s : ByteArray) (a n : Int) (ha : -9223372036854775808 ≤ a ∧ a ≤ 9223372036854775807) (hs : s.size ≤ maxLen) (h : ¬ GetOk s a n) (w : World) :
    Calls Try.prog 141 #[.string s, .int .i64 a, .int .i64 n] w fun e w' => e = .returned (.tuple #[.int .i64 0, .bool false]) ∧ w = w' := by
  unfold maxLen at hs
  unfold GetOk at h
  by_cases h1 : n < 1
  · clear h
    go_enter Try.func141, Try.ntmps141
    go_wp2
    go_ret2
    exact ⟨rfl, rfl⟩
  · have hd1 : decide (n < 1) = false := by simp; omega
    by_cases h2 : 4 < n
    · have hd2 : decide (4 < n) = true := by simp; omega
      clear h h1
      go_enter Try.func141, Try.ntmps141
      go_wp2
      go_ret2
      exact ⟨rfl, rfl⟩
    · have hd2 : decide (4 < n) = false := by simp; omega
      by_cases h3 : a < 0
      · have hd3 : decide (a < 0) = true := by simp; omega
        clear h h1 h2
        go_enter Try.func141, Try.ntmps141
        go_wp2
        go_ret2
        exact ⟨rfl, rfl⟩
      · have hd3 : decide (a < 0) = false := by simp; omega
        have hd4 : decide ((s.size : Int) - n < a) = true := by simp; omega
        clear h
        go_enter Try.func141, Try.ntmps141
        go_wp2
        go_ret2
        exact ⟨rfl, rfl⟩

end Go.Proofs.Ytckofkdeedbbgaa
