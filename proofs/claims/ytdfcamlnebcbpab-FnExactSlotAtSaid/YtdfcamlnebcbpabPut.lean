/- What this text proves: the contract of PutWord. -/
import Derived.Test.YtdfcamlnebcbpabBytes
import Derived.LoopTactic
import Derived.IntWalk
import Derived.Outline
import Derived.Laws.AppendOwn
import Derived.WalkLawsBesides
import Derived.WalkSpells
import Derived.Lib.SliceRun
import Derived.Stop.BytesEq
import Derived.Laws.IdiomStrings
namespace Go.Proofs.Ytdfcamlnebcbpab
open Go.ChangeShapes Go.WideShapes Go.ChangeAt Go.RowKit
set_option linter.unusedVariables false

/-- Byte j of a number, from below. -/
def byteN (n j : Nat) : UInt8 := UInt8.ofNat (n / 256 ^ j)
theorem byteN_val (n j : Nat) : (byteN n j).toNat = n / 256 ^ j % 256 := by unfold byteN; simp [UInt8.toNat_ofNat']

theorem zero_u8 (w : World) : (zeroValue 5).run Try.prog w = .ok (.int .u8 0) w := by kernel_rfl
theorem size_u8 (w : World) : (sizeOf 5).run Try.prog w = .ok 1 w := by kernel_rfl
/-- The k lowest bytes of a number, the highest first. -/
def putB (n : Nat) : Nat → List UInt8
  | 0 => []
  | k + 1 => byteN n k :: putB n k

end Go.Proofs.Ytdfcamlnebcbpab
