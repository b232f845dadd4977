/- What this text proves: the contracts of SealText and OpenText: program and model both return, for every text of at most 1048576 bytes, the text and the two bytes of its check; and the text without them, if they are its check. -/
import Derived.Test.YtmmedhjmilgnbabCheck
import Derived.Test.YtmmedhjmilgnbabPutS
import Derived.Laws.Concat
namespace Go.Proofs.Ytmmedhjmilgnbab
open Go.ChangeShapes Go.WideShapes Go.ChangeAt Go.RowKit
set_option linter.unusedVariables false

theorem putS_size (n k : Int) : (putS n k).size ≤ 4 := by
  unfold putS
  split
  · rename_i h
    have h2 := h.2.1
    show ((putB n.toNat k.toNat).toArray).size ≤ 4
    rw [List.size_toArray, putB_len]
    omega
  · show (#[] : Array UInt8).size ≤ 4
    decide
/-- A text and the two bytes of its check. -/
noncomputable def sealS (s : ByteArray) : ByteArray := s ++ putS (crc s : Nat) 2
def OpenOk (s : ByteArray) : Prop := 2 ≤ s.size ∧ ((sealS (s.extract 0 (s.size - 2))).toList == s.toList) = true
/-- What OpenText returns. -/
noncomputable def openV (s : ByteArray) : ByteArray × Bool := open Classical in if OpenOk s then (s.extract 0 (s.size - 2), true) else (⟨#[]⟩, false)
theorem openV_yes {s : ByteArray} (h : OpenOk s) : openV s = (s.extract 0 (s.size - 2), true) := by unfold openV; rw [if_pos h]
theorem openV_no {s : ByteArray} (h : ¬ OpenOk s) : openV s = (⟨#[]⟩, false) := by unfold openV; rw [if_neg h]
def retO (p : ByteArray × Bool) : Ending := .returned (.tuple #[.string p.1, .bool p.2])
theorem slice_to (s : ByteArray) (h2 : 2 ≤ s.size) : ∀ W : World, (Instr.slice 9 (.string s) none (some (.int .i64 ((s.size : Int) - 2))) none).run Try.prog W = .ok (.string (s.extract 0 (s.size - 2))) W := fun W => by
  have h := run_slice_string_to_if W 9 s .i64 ((s.size : Int) - 2) Try.underlying9
  rw [if_pos (by omega), show ((s.size : Int) - 2).toNat = s.size - 2 from by omega] at h
  exact h

end Go.Proofs.Ytmmedhjmilgnbab
