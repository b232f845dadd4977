/- What this text proves: the contracts of the model's EncodeCommand and of the program's: the bytes of a command. -/
import Derived.Test.YtmmedhjmilgnbabSeal
import Derived.Test.YtmmedhjmilgnbabPktE
import Derived.Test.YtmmedhjmilgnbabISq
import Derived.Lib.AppendStr
namespace Go.Proofs.Ytmmedhjmilgnbab
open Go.ChangeShapes Go.WideShapes Go.ChangeAt Go.RowKit
set_option linter.unusedVariables false

def CmOk (k q : Int) (d : ByteArray) : Prop := (0 ≤ k ∧ k ≤ 1) ∧ (0 ≤ q ∧ q ≤ 255) ∧ d.size ≤ 40
instance (k q : Int) (d : ByteArray) : Decidable (CmOk k q d) := by unfold CmOk; infer_instance
/-- What EncodeCommand returns. -/
noncomputable def cmT (k q : Int) (d : ByteArray) : ByteArray := if CmOk k q d then sealS (putS k 1 ++ putS q 1 ++ d) else ⟨#[]⟩
theorem cmT_yes {k q : Int} {d : ByteArray} (h : CmOk k q d) : cmT k q d = sealS (putS k 1 ++ putS q 1 ++ d) := by unfold cmT; rw [if_pos h]
theorem cmT_no {k q : Int} {d : ByteArray} (h : ¬ CmOk k q d) : cmT k q d = ⟨#[]⟩ := by unfold cmT; rw [if_neg h]
theorem putS_one {n : Int} (h : 0 ≤ n ∧ n ≤ 255) : putS n 1 = ⟨#[byteN n.toNat 0]⟩ := by
  unfold putS
  rw [if_pos ⟨by decide, by decide, h.1, by simp; omega⟩]
  rfl

theorem own_two (w : World) (a b : Nat) (ha : a ≤ 255) (hb : b ≤ 255) : OwnB (w.alloc (.cells #[.int .u8 (a : Int), .int .u8 (b : Int)] 5)) w.heap.size (.slice (some ⟨w.heap.size, 0, none⟩) 2 2) [byteN a 0, byteN b 0] := by
  have h := World.ownsRow_lit (base := w.heap.size) (e := 5) (size := 1) w #[.int .u8 (a : Int), .int .u8 (b : Int)] 2 (Nat.le_refl _) (by decide) rfl
  have e : ([byteN a 0, byteN b 0].map cellB) = [.int .u8 (a : Int), .int .u8 (b : Int)] := by
    simp only [List.map_cons, List.map_nil, cellB, byteN_val]
    rw [show a / 256 ^ 0 % 256 = a by omega, show b / 256 ^ 0 % 256 = b by omega]
  unfold OwnB
  rw [e]
  exact h
theorem text_two (a b : UInt8) (d : ByteArray) : (⟨([a, b] ++ d.data.toList).toArray⟩ : ByteArray) = ⟨#[a]⟩ ++ ⟨#[b]⟩ ++ d := by
  apply ByteArray.ext
  apply Array.ext'
  simp [ByteArray.data_append]

end Go.Proofs.Ytmmedhjmilgnbab
