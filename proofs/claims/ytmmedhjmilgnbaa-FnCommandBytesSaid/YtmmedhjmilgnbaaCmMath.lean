/- What this text proves: a command comes back from its bytes, and not from bytes of which one is another; a notice comes back from its bytes. -/
import Derived.Test.YtmmedhjmilgnbaaCmdD
import Derived.Test.YtmmedhjmilgnbaaNtcD
import Derived.Test.YtmmedhjmilgnbaaCrc
namespace Go.Proofs.Ytmmedhjmilgnbaa
open Go.ChangeShapes Go.WideShapes Go.ChangeAt Go.RowKit
set_option linter.unusedVariables false

theorem byteN_at (n : Nat) (h : n ≤ 255) : (byteN n 0).toNat = n := by
  rw [byteN_val, show n / 256 ^ 0 = n by omega]; omega
theorem cm_text {k q : Nat} {d : ByteArray} (hk : k ≤ 255) (hq : q ≤ 255) : (putS (k : Int) 1 ++ putS (q : Int) 1 ++ d).data.toList = byteN k 0 :: byteN q 0 :: d.data.toList := by
  rw [putS_one (by omega), putS_one (by omega)]
  simp [ByteArray.data_append]
theorem decC_back {k q : Nat} {d : ByteArray} (h : CmOk (k : Int) (q : Int) d) : decC (cmT (k : Int) (q : Int) d) = ((k : Int), (q : Int), d, true) := by
  have hk : k ≤ 1 := by have := h.1.2; omega
  have hq : q ≤ 255 := by have := h.2.1.2; omega
  have ht := cm_text (d := d) (show k ≤ 255 by omega) hq
  have hT := cmT_yes h
  generalize putS (k : Int) 1 ++ putS (q : Int) 1 ++ d = t at *
  have hsz : t.size = d.size + 2 := by
    have h1 := congrArg List.length ht
    rw [List.length_cons, List.length_cons, Array.length_toList, Array.length_toList] at h1
    exact h1
  have e0 : byteAt t 0 = k := by unfold byteAt; rw [ht]; simpa using byteN_at k (by omega)
  have e1 : byteAt t 1 = q := by unfold byteAt; rw [ht]; simpa using byteN_at q hq
  have e2 : t.extract 2 t.size = d := by
    apply ByteArray.ext
    apply Array.ext'
    rw [hsz, ByteArray.data_extract, Array.toList_extract, ht]
    have hl : d.data.toList.length = d.size := by rw [Array.length_toList]; rfl
    show ((byteN k 0 :: byteN q 0 :: d.data.toList).drop 2).take (d.size + 2 - 2) = d.data.toList
    rw [List.drop_succ_cons, List.drop_succ_cons, List.drop_zero, List.take_of_length_le (by rw [hl]; omega)]
  have ho : openV (cmT (k : Int) (q : Int) d) = (t, true) := by rw [hT]; exact open_seal t
  rw [decC_yes ho ⟨by omega, by rw [e0, e1, e2]; exact beq_self_eq_true _⟩, e0, e1, e2]
theorem decC_turned {k q : Int} {d : ByteArray} (h : CmOk k q d) (t : ByteArray) (j : Nat) (x : UInt8) (hj : j < (cmT k q d).data.toList.length) (hx : x ≠ (cmT k q d).data.toList[j]) (ht : t.data.toList = (cmT k q d).data.toList.set j x) : decC t = (0, 0, ⟨#[]⟩, false) := by
  have hT := cmT_yes h
  simp only [hT] at hj hx ht
  exact decC_no (open_turned _ t j x hj hx ht) (fun h => by cases h.1)
theorem cmT_pos {k q : Int} {d : ByteArray} (h : CmOk k q d) : 0 < (cmT k q d).size ∧ (cmT k q d).size ≤ 50 := by
  rw [cmT_yes h, sealS_size, ByteArray.size_append, ByteArray.size_append]
  have h1 := putS_four_le k 1
  have h2 := putS_four_le q 1
  have h3 := h.2.2
  omega
theorem decN_back {x : Nat} (p q : Bool) (hx : x ≤ 255) : decN (ntT (x : Int) p q) = ((x : Int), p, q, true) ∧ (ntT (x : Int) p q).size = 2 := by
  obtain ⟨m, hm⟩ : ∃ m : Nat, bitI p + 2 * bitI q = (m : Int) := ⟨(bitI p + 2 * bitI q).toNat, by have := bitI_bd p; have := bitI_bd q; omega⟩
  have hm3 : m ≤ 3 ∧ lowB m = p ∧ upB m = q := by
    cases p <;> cases q
    · obtain rfl : m = 0 := by simp only [bitI] at hm; simp at hm; omega
      decide
    · obtain rfl : m = 2 := by simp only [bitI] at hm; simp at hm; omega
      decide
    · obtain rfl : m = 1 := by simp only [bitI] at hm; simp at hm; omega
      decide
    · obtain rfl : m = 3 := by simp only [bitI] at hm; simp at hm; omega
      decide
  have e : ntT (x : Int) p q = ⟨#[byteN x 0, byteN m 0]⟩ := by
    rw [ntT_yes (by omega), hm, putS_one (by omega), putS_one (by omega)]
    rfl
  have e0 : byteAt (ntT (x : Int) p q) 0 = x := by rw [e]; exact byteN_at x hx
  have e1 : byteAt (ntT (x : Int) p q) 1 = m := by rw [e]; exact byteN_at m (by omega)
  have e2 : (ntT (x : Int) p q).size = 2 := by rw [e]; rfl
  refine ⟨?_, e2⟩
  rw [decN_yes ⟨e2, by rw [e1]; exact hm3.1⟩, e0, e1, hm3.2.1, hm3.2.2]
end Go.Proofs.Ytmmedhjmilgnbaa
