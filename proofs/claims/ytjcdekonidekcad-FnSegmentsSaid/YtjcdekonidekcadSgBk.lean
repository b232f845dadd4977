/- What this text proves: segments, ends and lists of missing segments are decoded from their bytes; the segments of a file make the file. -/
import Derived.Test.YtjcdekonidekcadSgD
import Derived.Test.YtjcdekonidekcadDmi
namespace Go.Proofs.Ytjcdekonidekcad
open Go.ChangeShapes Go.WideShapes Go.ChangeAt Go.RowKit
set_option linter.unusedVariables false

theorem size_list6 (s : ByteArray) : s.size = s.data.toList.length := by simp
theorem list_inj6 {s t : ByteArray} (h : s.data.toList = t.data.toList) : s = t := ByteArray.ext (Array.toList_inj.1 h)
theorem app_list6 (s t : ByteArray) : (s ++ t).data.toList = s.data.toList ++ t.data.toList := by rw [ByteArray.data_append, Array.toList_append]
theorem ext_list6 (s : ByteArray) (a b : Nat) : (s.extract a b).data.toList = (s.data.toList.drop a).take (b - a) := by
  rw [ByteArray.data_extract, Array.toList_extract, List.extract_eq_take_drop]
theorem byteAt_list6 {l : List UInt8} {s : ByteArray} (h : s.data.toList = l) (j : Nat) (hj : j < l.length) : byteAt s j = (l.getD j 0).toNat := by
  unfold byteAt
  rw [h]
theorem put_list6 (n k : Nat) (hk1 : 1 ≤ k) (hk : k ≤ 4) (h : n < 256 ^ k) : (putS (n : Int) (k : Int)).data.toList = putB n k := by
  unfold putS
  obtain rfl | rfl | rfl | rfl : k = 1 ∨ k = 2 ∨ k = 3 ∨ k = 4 := by omega
  all_goals
    rw [if_pos ⟨by decide, by decide, by omega, by simp; omega⟩]
    rfl
theorem esT_list {f k : Nat} {d : ByteArray} (h : EsOk f k d) : (esT f k d).data.toList = [0, byteN f 0, byteN k 0] ++ d.data.toList := by
  obtain ⟨h1, h2, h3⟩ := id h
  have e0 := put_list6 0 1 (by omega) (by omega) (by omega)
  have e1 := put_list6 f 1 (by omega) (by omega) (by omega)
  have e2 := put_list6 k 1 (by omega) (by omega) (by omega)
  rw [esT_yes h, app_list6, app_list6, app_list6]
  rw [show (1 : Int) = ((1 : Nat) : Int) from rfl, show (0 : Int) = ((0 : Nat) : Int) from rfl, e0, e1, e2]
  rfl
theorem decS_back {f k : Int} {d : ByteArray} (h : EsOk f k d) : decS (esT f k d) = (f, k, d, true) ∧ (esT f k d).size = 3 + d.size := by
  obtain ⟨h1, h2, h3⟩ := id h
  obtain ⟨f, rfl⟩ := Int.eq_ofNat_of_zero_le h1.1
  obtain ⟨k, rfl⟩ := Int.eq_ofNat_of_zero_le h2.1
  have hl := esT_list h
  have hz : (esT (f : Int) (k : Int) d).size = 3 + d.size := by rw [size_list6, hl, List.length_append, ← size_list6]; rfl
  refine ⟨?_, hz⟩
  generalize hs : esT (f : Int) (k : Int) d = s at *
  have hb : ∀ j, j < 3 → byteAt s j = ([0, byteN f 0, byteN k 0].getD j 0).toNat := fun j hj => by
    rw [byteAt_list6 hl j (by simp; omega), List.getD_eq_getElem?_getD, List.getElem?_append_left (by simpa using hj), ← List.getD_eq_getElem?_getD]
  have b1 : byteAt s 1 = f := by rw [hb 1 (by decide)]; show (byteN f 0).toNat = _; rw [byteN_val]; simp; omega
  have b2 : byteAt s 2 = k := by rw [hb 2 (by decide)]; show (byteN k 0).toNat = _; rw [byteN_val]; simp; omega
  have hx : s.extract 3 s.size = d := by
    apply list_inj6
    rw [ext_list6, hl, show s.size - 3 = d.data.toList.length by rw [hz, ← size_list6]; omega]
    show (d.data.toList).take d.data.toList.length = _
    rw [List.take_length]
  rw [decS_yes ⟨by omega, by rw [b1, b2, hx, hs]; exact beq_self_eq_true _⟩, b1, b2, hx]
theorem eeT_list {f : Nat} {d : ByteArray} (h : EeOk f d) : (eeT f d).data.toList = [1, byteN f 0, byteN d.size 1, byteN d.size 0, byteN (crc d) 1, byteN (crc d) 0] := by
  obtain ⟨h1, h2⟩ := id h
  have h3 := crc_lt d
  have e0 := put_list6 1 1 (by omega) (by omega) (by omega)
  have e1 := put_list6 f 1 (by omega) (by omega) (by omega)
  have e2 := put_list6 d.size 2 (by omega) (by omega) (by omega)
  have e3 := put_list6 (crc d) 2 (by omega) (by omega) (by omega)
  rw [eeT_yes h, app_list6, app_list6, app_list6]
  rw [show (1 : Int) = ((1 : Nat) : Int) from rfl, show (2 : Int) = ((2 : Nat) : Int) from rfl, e0, e1, e2, e3]
  rfl
theorem decE_back {f : Int} {d : ByteArray} (h : EeOk f d) : decE (eeT f d) = (f, (d.size : Int), ((crc d : Nat) : Int), true) ∧ (eeT f d).size = 6 := by
  obtain ⟨h1, h2⟩ := id h
  have h3 := crc_lt d
  obtain ⟨f, rfl⟩ := Int.eq_ofNat_of_zero_le h1.1
  have hl := eeT_list h
  have hz : (eeT (f : Int) d).size = 6 := by rw [size_list6, hl]; rfl
  refine ⟨?_, hz⟩
  generalize eeT (f : Int) d = s at *
  generalize crc d = K at *
  generalize hn : d.size = n at *
  have b0 : byteAt s 0 = 1 := by rw [byteAt_list6 hl 0 (by simp)]; rfl
  have b1 : byteAt s 1 = f := by rw [byteAt_list6 hl 1 (by simp)]; show (byteN f 0).toNat = _; rw [byteN_val]; simp; omega
  have b2 : byteAt s 2 = n / 256 % 256 := by rw [byteAt_list6 hl 2 (by simp)]; show (byteN n 1).toNat = _; rw [byteN_val]
  have b3 : byteAt s 3 = n % 256 := by rw [byteAt_list6 hl 3 (by simp)]; show (byteN n 0).toNat = _; rw [byteN_val]; simp
  have b4 : byteAt s 4 = K / 256 % 256 := by rw [byteAt_list6 hl 4 (by simp)]; show (byteN K 1).toNat = _; rw [byteN_val]
  have b5 : byteAt s 5 = K % 256 := by rw [byteAt_list6 hl 5 (by simp)]; show (byteN K 0).toNat = _; rw [byteN_val]; simp
  have v2 : valW s 2 2 = n := by simp only [valW]; rw [b2, b3]; omega
  have v3 : valW s 4 2 = K := by simp only [valW]; rw [b4, b5]; omega
  rw [decE_yes ⟨hz, b0, by rw [b1]; omega, by rw [v2]; omega⟩, b1, v2, v3]
/-- A list of two missing segments. -/
theorem decM_two {f a b : Int} (hf : 0 ≤ f ∧ f ≤ 7) (ha : 0 ≤ a ∧ a ≤ 24) (hb : 0 ≤ b ∧ b ≤ 24) : decM (emT f [a, b]) = (f, [a, b], true) := by
  have hok : EmOk f [a, b] := ⟨hf, by simp, fun k hk => by
    have hk2 : k < 2 := hk
    obtain rfl | rfl : k = 0 ∨ k = 1 := by omega
    · exact ha
    · exact hb⟩
  obtain ⟨f, rfl⟩ := Int.eq_ofNat_of_zero_le hf.1
  obtain ⟨a, rfl⟩ := Int.eq_ofNat_of_zero_le ha.1
  obtain ⟨b, rfl⟩ := Int.eq_ofNat_of_zero_le hb.1
  have e0 := put_list6 f 1 (by omega) (by omega) (by omega)
  have e1 := put_list6 a 1 (by omega) (by omega) (by omega)
  have e2 := put_list6 b 1 (by omega) (by omega) (by omega)
  have hl : (emT (f : Int) [(a : Int), (b : Int)]).data.toList = [byteN f 0, byteN a 0, byteN b 0] := by
    rw [emT_yes hok]
    show ((putS (f : Int) ((1 : Nat) : Int) ++ putS (a : Int) ((1 : Nat) : Int)) ++ putS (b : Int) ((1 : Nat) : Int)).data.toList = _
    rw [app_list6, app_list6, e0, e1, e2]
    rfl
  have hz : (emT (f : Int) [(a : Int), (b : Int)]).size = 3 := by rw [size_list6, hl]; rfl
  generalize hs : emT (f : Int) [(a : Int), (b : Int)] = s at *
  have b0 : byteAt s 0 = f := by rw [byteAt_list6 hl 0 (by simp)]; show (byteN f 0).toNat = _; rw [byteN_val]; simp; omega
  have b1 : byteAt s 1 = a := by rw [byteAt_list6 hl 1 (by simp)]; show (byteN a 0).toNat = _; rw [byteN_val]; simp; omega
  have b2 : byteAt s 2 = b := by rw [byteAt_list6 hl 2 (by simp)]; show (byteN b 0).toNat = _; rw [byteN_val]; simp; omega
  have ht : tlS s (s.size - 1) = [(a : Int), (b : Int)] := by
    rw [hz]
    show [((byteAt s (0 + 1) : Nat) : Int), ((byteAt s (1 + 1) : Nat) : Int)] = _
    rw [b1, b2]
  rw [decM_yes ⟨by omega, by rw [b0, ht, hs]; exact beq_self_eq_true _⟩, b0, ht]
/-- A segment of a file, at a place where there is one. -/
theorem segS_pos {d : ByteArray} {k : Int} (h : SegOk k d.size) : 1 ≤ (segS d k).size := by
  have := h.low
  have h0 := h.1
  unfold segS
  rw [if_pos h, ByteArray.size_extract]
  omega
theorem segS_ok {d : ByteArray} {k f : Int} (h : SegOk k d.size) (hf : 0 ≤ f ∧ f ≤ 7) : EsOk f k (segS d k) := by
  have h1 := h.low
  have h2 := segS_pos h
  have h3 := segS_size d k
  exact ⟨hf, ⟨h.1, h1.2.2.2⟩, by omega, by omega⟩
theorem seg_join (d : ByteArray) (k : Nat) (h : SegOk (k : Int) d.size) : d.extract 0 (24 * k) ++ segS d (k : Int) = d.extract 0 (24 * (k + 1)) := by
  unfold segS
  rw [if_pos h, Int.toNat_natCast, ByteArray.extract_append_extract]
  congr 1 <;> omega
theorem seg_all (d : ByteArray) (n : Nat) (h : cntS d.size = (n : Int)) (hd : d.size ≤ 600) : d.extract 0 (24 * n) = d := by
  rw [cntS_in (by omega)] at h
  apply list_inj6
  rw [ext_list6, List.drop_zero, List.take_of_length_le]
  rw [← size_list6]
  omega
end Go.Proofs.Ytjcdekonidekcad
