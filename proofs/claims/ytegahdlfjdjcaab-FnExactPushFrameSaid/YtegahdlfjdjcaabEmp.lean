/- What this text proves: a text is the empty one just where it has no byte. -/
import Derived.Test.YtegahdlfjdjcaabByte
import Derived.Lib.Hide
import Derived.Lib.Strings
namespace Go.Proofs.Ytegahdlfjdjcaab
open Go Go.RowKit

theorem empty_text (a : ByteArray) (h : a.size = 0) : a = ⟨#[]⟩ := ByteArray.ext (Array.eq_empty_of_size_eq_zero h)
theorem text_none (a : ByteArray) (h : a.size = 0) : a.toList.isEmpty = true := by
  rw [empty_text a h, Lib.toList_data]
  rfl
theorem text_full (a : ByteArray) (h : 0 < a.size) : a.toList.isEmpty = false := by
  cases e : a.toList with
  | nil =>
    rw [Lib.toList_data] at e
    have : a.size = 0 := by
      show a.data.size = 0
      rw [← Array.length_toList, e]
      rfl
    omega
  | cons x r => rfl
theorem self_text (a : ByteArray) : (a.toList == a.toList) = true := beq_self_eq_true _
theorem unlike_text (a b : ByteArray) (h : a ≠ b) : (a.toList == b.toList) = false := by
  refine beq_eq_false_iff_ne.2 fun he => h ?_
  rw [Lib.toList_data, Lib.toList_data] at he
  exact ByteArray.ext (Array.toList_inj.1 he)
theorem unlike_text' (a b : ByteArray) (h : a ≠ b) : (a.toList != b.toList) = true := by
  rw [bne, unlike_text a b h]
  rfl
end Go.Proofs.Ytegahdlfjdjcaab
