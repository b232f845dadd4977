/- What this text proves: a text is the empty one just where it has no byte. -/
import Derived.Test.YtdponcannphboabByte
import Derived.Lib.Hide
import Derived.Lib.Strings
namespace Go.Proofs.Ytdponcannphboab
open Go Go.RowKit

theorem empty_text (a : ByteArray) (h : a.size = 0) : a = ⟨#[]⟩ := ByteArray.ext (Array.eq_empty_of_size_eq_zero h)
theorem text_none (a : ByteArray) (h : a.size = 0) : a.toList.isEmpty = true := by
  rw [empty_text a h, Lib.toList_data]
  rfl
theorem text_full (a : ByteArray) (h : 0 < a.size) : a.toList.isEmpty = false := by
  cases e : a.toList with
  | nil =>
    rw [Lib.toList_data] at e
    have : a.size = 0 := by
      show a.data.size = 0
      rw [← Array.length_toList, e]
      rfl
    omega
  | cons x r => rfl
end Go.Proofs.Ytdponcannphboab
