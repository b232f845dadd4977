/- What this text proves: a command comes back from its bytes, and not from bytes of which one is another. -/
import Derived.Test.YtmmedhjmilgnbaaDoorCmdD
import Derived.Test.YtmmedhjmilgnbaaDoorCrc
namespace Go.Proofs.YtmmedhjmilgnbaaDoor
open Go.ChangeShapes Go.WideShapes Go.ChangeAt Go.RowKit
set_option linter.unusedVariables false

theorem byteN_at (n : Nat) (h : n ≤ 255) : (byteN n 0).toNat = n := by
  rw [byteN_val, show n / 256 ^ 0 = n by omega]; omega
theorem cm_text {k q : Nat} {d : ByteArray} (hk : k ≤ 255) (hq : q ≤ 255) : (putS (k : Int) 1 ++ putS (q : Int) 1 ++ d).data.toList = byteN k 0 :: byteN q 0 :: d.data.toList := by
  rw [putS_one (by omega), putS_one (by omega)]
  simp [ByteArray.data_append]
theorem decC_back {k q : Nat} {d : ByteArray} (h : CmOk (k : Int) (q : Int) d) : decC (cmT (k : Int) (q : Int) d) = ((k : Int), (q : Int), d, true) := by
  have hk : k ≤ 1 := by have := h.1.2; omega
  have hq : q ≤ 255 := by have := h.2.1.2; omega
  have ht := cm_text (d := d) (show k ≤ 255 by omega) hq
  have hT := cmT_yes h
  generalize putS (k : Int) 1 ++ putS (q : Int) 1 ++ d = t at *
  have hsz : t.size = d.size + 2 := by
    have h1 := congrArg List.length ht
    rw [List.length_cons, List.length_cons, Array.length_toList, Array.length_toList] at h1
    exact h1
  have e0 : byteAt t 0 = k := by unfold byteAt; rw [ht]; simpa using byteN_at k (by omega)
  have e1 : byteAt t 1 = q := by unfold byteAt; rw [ht]; simpa using byteN_at q hq
  have e2 : t.extract 2 t.size = d := by
    apply ByteArray.ext
    apply Array.ext'
    rw [hsz, ByteArray.data_extract, Array.toList_extract, ht]
    have hl : d.data.toList.length = d.size := by rw [Array.length_toList]; rfl
    show ((byteN k 0 :: byteN q 0 :: d.data.toList).drop 2).take (d.size + 2 - 2) = d.data.toList
    rw [List.drop_succ_cons, List.drop_succ_cons, List.drop_zero, List.take_of_length_le (by rw [hl]; omega)]
  have ho : openV (cmT (k : Int) (q : Int) d) = (t, true) := by rw [hT]; exact open_seal t
  rw [decC_yes ho ⟨by omega, by rw [e0, e1, e2]; exact beq_self_eq_true _⟩, e0, e1, e2]
theorem decC_turned {k q : Int} {d : ByteArray} (h : CmOk k q d) (t : ByteArray) (j : Nat) (x : UInt8) (hj : j < (cmT k q d).data.toList.length) (hx : x ≠ (cmT k q d).data.toList[j]) (ht : t.data.toList = (cmT k q d).data.toList.set j x) : decC t = (0, 0, ⟨#[]⟩, false) := by
  have hT := cmT_yes h
  simp only [hT] at hj hx ht
  exact decC_no (open_turned _ t j x hj hx ht) (fun h => by cases h.1)
theorem cmT_pos {k q : Int} {d : ByteArray} (h : CmOk k q d) : 0 < (cmT k q d).size ∧ (cmT k q d).size ≤ 50 := by
  rw [cmT_yes h, sealS_size, ByteArray.size_append, ByteArray.size_append]
  have h1 := putS_four_le k 1
  have h2 := putS_four_le q 1
  have h3 := h.2.2
  omega
end Go.Proofs.YtmmedhjmilgnbaaDoor
