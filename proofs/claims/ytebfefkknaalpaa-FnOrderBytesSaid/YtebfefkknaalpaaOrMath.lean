/- What this text proves: orders and records are decoded from their bytes. -/
import Derived.Test.YtebfefkknaalpaaOrdD
import Derived.Test.YtebfefkknaalpaaRcdD
namespace Go.Proofs.Ytebfefkknaalpaa
open Go.ChangeShapes Go.WideShapes Go.ChangeAt Go.RowKit
set_option linter.unusedVariables false

theorem size_list5 (s : ByteArray) : s.size = s.data.toList.length := by simp
theorem list_inj5 {s t : ByteArray} (h : s.data.toList = t.data.toList) : s = t := ByteArray.ext (Array.toList_inj.1 h)
theorem app_list5 (s t : ByteArray) : (s ++ t).data.toList = s.data.toList ++ t.data.toList := by rw [ByteArray.data_append, Array.toList_append]
theorem ext_list5 (s : ByteArray) (a b : Nat) : (s.extract a b).data.toList = (s.data.toList.drop a).take (b - a) := by
  rw [ByteArray.data_extract, Array.toList_extract, List.extract_eq_take_drop]
theorem byteAt_list {l : List UInt8} {s : ByteArray} (h : s.data.toList = l) (j : Nat) (hj : j < l.length) : byteAt s j = (l.getD j 0).toNat := by
  unfold byteAt
  rw [h]
theorem put_list (n k : Nat) (hk1 : 1 ≤ k) (hk : k ≤ 4) (h : n < 256 ^ k) : (putS (n : Int) (k : Int)).data.toList = putB n k := by
  unfold putS
  obtain rfl | rfl | rfl | rfl : k = 1 ∨ k = 2 ∨ k = 3 ∨ k = 4 := by omega
  all_goals
    rw [if_pos ⟨by decide, by decide, by omega, by simp; omega⟩]
    rfl
theorem orT_list {k t a b : Nat} (h : OrOk k t a b) : (orT k t a b).data.toList = [byteN k 0, byteN t 2, byteN t 1, byteN t 0, byteN a 0, byteN b 1, byteN b 0] := by
  have h0 := h.kind
  obtain ⟨h1, h2, h3⟩ := h.low
  have e1 := put_list k 1 (by omega) (by omega) (by omega)
  have e2 := put_list t 3 (by omega) (by omega) (by omega)
  have e3 := put_list a 1 (by omega) (by omega) (by omega)
  have e4 := put_list b 2 (by omega) (by omega) (by omega)
  unfold orT
  rw [if_pos h, app_list5, app_list5, app_list5]
  rw [show (1 : Int) = ((1 : Nat) : Int) from rfl, show (3 : Int) = ((3 : Nat) : Int) from rfl, show (2 : Int) = ((2 : Nat) : Int) from rfl, e1, e2, e3, e4]
  rfl
theorem decO_back {k t a b : Int} (h : OrOk k t a b) : decO (orT k t a b) = (k, t, a, b, true) := by
  have h0 := h.kind
  obtain ⟨h1, h2, h3⟩ := h.low
  obtain ⟨k, rfl⟩ := Int.eq_ofNat_of_zero_le h0.1
  obtain ⟨t, rfl⟩ := Int.eq_ofNat_of_zero_le h1.1
  obtain ⟨a, rfl⟩ := Int.eq_ofNat_of_zero_le h2.1
  obtain ⟨b, rfl⟩ := Int.eq_ofNat_of_zero_le h3.1
  have hl := orT_list h
  have hz : (orT (k : Int) (t : Int) (a : Int) (b : Int)).size = 7 := by rw [size_list5, hl]; rfl
  generalize orT (k : Int) (t : Int) (a : Int) (b : Int) = s at *
  have b0 : byteAt s 0 = k := by rw [byteAt_list hl 0 (by simp)]; show (byteN k 0).toNat = _; rw [byteN_val]; simp; omega
  have b1 : byteAt s 1 = t / 65536 % 256 := by rw [byteAt_list hl 1 (by simp)]; show (byteN t 2).toNat = _; rw [byteN_val]
  have b2 : byteAt s 2 = t / 256 % 256 := by rw [byteAt_list hl 2 (by simp)]; show (byteN t 1).toNat = _; rw [byteN_val]
  have b3 : byteAt s 3 = t % 256 := by rw [byteAt_list hl 3 (by simp)]; show (byteN t 0).toNat = _; rw [byteN_val]; simp
  have b4 : byteAt s 4 = a := by rw [byteAt_list hl 4 (by simp)]; show (byteN a 0).toNat = _; rw [byteN_val]; simp; omega
  have b5 : byteAt s 5 = b / 256 % 256 := by rw [byteAt_list hl 5 (by simp)]; show (byteN b 1).toNat = _; rw [byteN_val]
  have b6 : byteAt s 6 = b % 256 := by rw [byteAt_list hl 6 (by simp)]; show (byteN b 0).toNat = _; rw [byteN_val]; simp
  have v0 : valW s 0 1 = k := by simp only [valW]; rw [b0]; omega
  have v1 : valW s 1 3 = t := by simp only [valW]; rw [b1, b2, b3]; omega
  have v2 : valW s 4 1 = a := by simp only [valW]; rw [b4]; omega
  have v3 : valW s 5 2 = b := by simp only [valW]; rw [b5, b6]; omega
  rw [decO_yes ⟨hz, by rw [v0, v1, v2, v3]; exact h⟩, v0, v1, v2, v3]
theorem rdT_list {i q t : Nat} {d : ByteArray} (h : RdOk i q t d) : (rdT i q t d).data.toList = [byteN i 1, byteN i 0, byteN q 0, byteN t 2, byteN t 1, byteN t 0] ++ d.data.toList := by
  obtain ⟨h1, h2, h3, h4⟩ := h
  have e1 := put_list i 2 (by omega) (by omega) (by omega)
  have e2 := put_list q 1 (by omega) (by omega) (by omega)
  have e3 := put_list t 3 (by omega) (by omega) (by omega)
  unfold rdT
  rw [if_pos ⟨h1, h2, h3, h4⟩, app_list5, app_list5, app_list5]
  rw [show (1 : Int) = ((1 : Nat) : Int) from rfl, show (3 : Int) = ((3 : Nat) : Int) from rfl, show (2 : Int) = ((2 : Nat) : Int) from rfl, e1, e2, e3]
  rfl
theorem decR_back {i q t : Int} {d : ByteArray} (h : RdOk i q t d) : decR (rdT i q t d) = (i, q, t, d, true) ∧ (rdT i q t d).size = 6 + d.size := by
  obtain ⟨h1, h2, h3, h4⟩ := id h
  obtain ⟨i, rfl⟩ := Int.eq_ofNat_of_zero_le h1.1
  obtain ⟨q, rfl⟩ := Int.eq_ofNat_of_zero_le h2.1
  obtain ⟨t, rfl⟩ := Int.eq_ofNat_of_zero_le h3.1
  have hl := rdT_list h
  have hz : (rdT (i : Int) (q : Int) (t : Int) d).size = 6 + d.size := by rw [size_list5, hl, List.length_append, ← size_list5]; rfl
  refine ⟨?_, hz⟩
  generalize rdT (i : Int) (q : Int) (t : Int) d = s at *
  have hb : ∀ j, j < 6 → byteAt s j = ([byteN i 1, byteN i 0, byteN q 0, byteN t 2, byteN t 1, byteN t 0].getD j 0).toNat := fun j hj => by
    rw [byteAt_list hl j (by simp; omega), List.getD_eq_getElem?_getD, List.getElem?_append_left (by simpa using hj), ← List.getD_eq_getElem?_getD]
  have b0 : byteAt s 0 = i / 256 % 256 := by rw [hb 0 (by decide)]; show (byteN i 1).toNat = _; rw [byteN_val]
  have b1 : byteAt s 1 = i % 256 := by rw [hb 1 (by decide)]; show (byteN i 0).toNat = _; rw [byteN_val]; simp
  have b2 : byteAt s 2 = q := by rw [hb 2 (by decide)]; show (byteN q 0).toNat = _; rw [byteN_val]; simp; omega
  have b3 : byteAt s 3 = t / 65536 % 256 := by rw [hb 3 (by decide)]; show (byteN t 2).toNat = _; rw [byteN_val]
  have b4 : byteAt s 4 = t / 256 % 256 := by rw [hb 4 (by decide)]; show (byteN t 1).toNat = _; rw [byteN_val]
  have b5 : byteAt s 5 = t % 256 := by rw [hb 5 (by decide)]; show (byteN t 0).toNat = _; rw [byteN_val]; simp
  have v0 : valW s 0 2 = i := by simp only [valW]; rw [b0, b1]; omega
  have v1 : valW s 2 1 = q := by simp only [valW]; rw [b2]; omega
  have v2 : valW s 3 3 = t := by simp only [valW]; rw [b3, b4, b5]; omega
  have hx : s.extract 6 s.size = d := by
    apply list_inj5
    rw [ext_list5, hl, show s.size - 6 = d.data.toList.length by rw [hz, ← size_list5]; omega]
    show (d.data.toList).take d.data.toList.length = _
    rw [List.take_length]
  rw [decR_yes ⟨by omega, by rw [v0, v1, v2, hx]; exact h⟩, v0, v1, v2, hx]
end Go.Proofs.Ytebfefkknaalpaa
