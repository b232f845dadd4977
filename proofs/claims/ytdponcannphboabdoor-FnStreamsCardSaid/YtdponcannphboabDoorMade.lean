/- What this text proves: a block begins with the mark, and goes on with the scrambled bytes. -/
import Derived.Test.YtdponcannphboabDoorLnkR
namespace Go.Proofs.YtdponcannphboabDoor
open Go.ChangeShapes Go.WideShapes Go.ChangeAt Go.RowKit
set_option linter.unusedVariables false

theorem made_tail (s : ByteArray) (h0 : 0 < s.size) (hs : s.size ≤ 200) : (makeT s).extract 4 (makeT s).size = bodyT s := by
  have hm : makeT s = markT ++ bodyT s := by unfold makeT; rw [if_neg (by omega)]
  rw [hm]
  generalize bodyT s = B
  have hz : (markT ++ B).size = 4 + B.size := by rw [ByteArray.size_append]; rfl
  apply ByteArray.ext
  apply Array.toList_inj.1
  rw [hz, ByteArray.data_extract, Array.toList_extract, ByteArray.data_append, Array.toList_append, show markT.data.toList = [26, 207, 252, 29] from rfl]
  show List.take (4 + B.size - 4) (List.drop 4 ([26, 207, 252, 29] ++ B.data.toList)) = _
  rw [show List.drop 4 ([26, 207, 252, 29] ++ B.data.toList) = B.data.toList from rfl]
  refine List.take_of_length_le ?_
  simp
theorem made_head (s : ByteArray) (h0 : 0 < s.size) (hs : s.size ≤ 200) : (makeT s).extract 0 4 = ⟨#[26, 207, 252, 29]⟩ := by
  have hm : makeT s = markT ++ bodyT s := by unfold makeT; rw [if_neg (by omega)]
  rw [hm]
  generalize bodyT s = B
  apply ByteArray.ext
  apply Array.toList_inj.1
  rw [ByteArray.data_extract, Array.toList_extract, ByteArray.data_append, Array.toList_append, show markT.data.toList = [26, 207, 252, 29] from rfl]
  rfl
theorem tail_four (B : ByteArray) : ((⟨#[26, 207, 252, 29]⟩ : ByteArray) ++ B).size = 4 + B.size ∧ ((⟨#[26, 207, 252, 29]⟩ : ByteArray) ++ B).extract 4 (4 + B.size) = B := by
  refine ⟨by rw [ByteArray.size_append]; rfl, ?_⟩
  apply ByteArray.ext
  apply Array.toList_inj.1
  rw [ByteArray.data_extract, Array.toList_extract, ByteArray.data_append, Array.toList_append, show (#[26, 207, 252, 29] : Array UInt8).toList = [26, 207, 252, 29] from rfl]
  show List.take (4 + B.size - 4) (List.drop 4 ([26, 207, 252, 29] ++ B.data.toList)) = _
  rw [show List.drop 4 ([26, 207, 252, 29] ++ B.data.toList) = B.data.toList from rfl]
  refine List.take_of_length_le ?_
  simp
end Go.Proofs.YtdponcannphboabDoor
