/- What this text proves: the contract of the model's PutWord. -/
import Derived.Test.YtdfcamlnebcbpacPut
import Derived.Test.YtdfcamlnebcbpacBuf
namespace Go.Proofs.Ytdfcamlnebcbpac
open Go.ChangeShapes Go.WideShapes Go.ChangeAt Go.RowKit
set_option linter.unusedVariables false

theorem putB_len (n k : Nat) : (putB n k).length = k := by
  induction k with
  | zero => rfl
  | succ k ih => simp [putB, ih]
theorem putB_take (n k m : Nat) (h : m < k) : (putB n k).take (k - m) = (putB n k).take (k - (m + 1)) ++ [byteN n m] := by
  induction k with
  | zero => omega
  | succ k ih =>
    by_cases hm : m = k
    · subst hm
      rw [show m + 1 - m = 1 from by omega, show m + 1 - (m + 1) = 0 from by omega]
      rfl
    · rw [show k + 1 - m = (k - m) + 1 from by omega, show k + 1 - (m + 1) = (k - (m + 1)) + 1 from by omega]
      simp only [putB, List.take_succ_cons, List.cons_append]
      rw [ih (by omega)]

def PutOk (n k : Int) : Prop := 1 ≤ k ∧ k ≤ 4 ∧ 0 ≤ n ∧ n < 256 ^ k.toNat

/-- What PutWord returns. -/
noncomputable def putS (n k : Int) : ByteArray := open Classical in if PutOk n k then ⟨(putB n.toNat k.toNat).toArray⟩ else ⟨#[]⟩
end Go.Proofs.Ytdfcamlnebcbpac
