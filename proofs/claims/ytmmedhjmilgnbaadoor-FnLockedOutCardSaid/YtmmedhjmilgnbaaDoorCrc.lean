/- What this text proves: a sealed text opens as itself, and with one byte changed it does not open: two texts that differ in one byte have different checks. -/
import Derived.Test.YtmmedhjmilgnbaaDoorSeal
import Derived.Laws.Strings
namespace Go.Proofs.YtmmedhjmilgnbaaDoor
open Go.ChangeShapes Go.WideShapes Go.ChangeAt Go.RowKit
set_option linter.unusedVariables false

theorem odd_xor (a : Nat) (h : a % 2 = 0) : (a ^^^ 4129) % 2 = 1 := by
  have h1 := Nat.xor_mod_two_pow (a := a) (b := 4129) (n := 1)
  simp only [Nat.pow_one] at h1
  rw [h1, h]
  decide
theorem cstep_inj (n m : Nat) (hn : n < 65536) (hm : m < 65536) (h : cstep n = cstep m) : n = m := by
  unfold cstep at h
  by_cases h1 : n &&& 32768 = 0
  · have a1 := top_bit n hn h1
    rw [if_pos h1] at h
    by_cases h2 : m &&& 32768 = 0
    · rw [if_pos h2] at h
      omega
    · rw [if_neg h2] at h
      have := odd_xor (2 * m % 65536) (by omega)
      omega
  · have a1 : 32768 ≤ n := by
      rcases Nat.lt_or_ge n 32768 with h3 | h3
      · have := top_bit2 n hn h1
        have h4 : n &&& 32768 ≤ n := Nat.and_le_left
        omega
      · exact h3
    rw [if_neg h1] at h
    by_cases h2 : m &&& 32768 = 0
    · rw [if_pos h2] at h
      have := odd_xor (2 * n % 65536) (by omega)
      omega
    · have a2 : 32768 ≤ m := by
        rcases Nat.lt_or_ge m 32768 with h3 | h3
        · have := top_bit2 m hm h2
          have h4 : m &&& 32768 ≤ m := Nat.and_le_left
          omega
        · exact h3
      rw [if_neg h2] at h
      have h5 : (2 * n % 65536 ^^^ 4129) ^^^ 4129 = (2 * m % 65536 ^^^ 4129) ^^^ 4129 := by rw [h]
      rw [Nat.xor_assoc, Nat.xor_assoc, Nat.xor_self, Nat.xor_zero, Nat.xor_zero] at h5
      omega
theorem csteps_inj (k n m : Nat) (hn : n < 65536) (hm : m < 65536) (h : csteps k n = csteps k m) : n = m := by
  induction k with
  | zero => exact h
  | succ k ih => exact ih (cstep_inj _ _ (csteps_lt k n hn) (csteps_lt k m hm) h)
theorem xor_cancel {a b c : Nat} (h : a ^^^ c = b ^^^ c) : a = b := by
  have h5 : (a ^^^ c) ^^^ c = (b ^^^ c) ^^^ c := by rw [h]
  rwa [Nat.xor_assoc, Nat.xor_assoc, Nat.xor_self, Nat.xor_zero, Nat.xor_zero] at h5
theorem cfeed_inj (n m b : Nat) (hn : n < 65536) (hm : m < 65536) (hb : b < 256) (h : cfeed n b = cfeed m b) : n = m :=
  xor_cancel (csteps_inj 8 _ _ (cxor_lt n b hn hb) (cxor_lt m b hm hb) h)
theorem cfeed_byte (n b c : Nat) (hn : n < 65536) (hb : b < 256) (hc : c < 256) (h : cfeed n b = cfeed n c) : b = c := by
  have h1 := csteps_inj 8 _ _ (cxor_lt n b hn hb) (cxor_lt n c hn hc) h
  rw [Nat.xor_comm n, Nat.xor_comm n] at h1
  have := xor_cancel h1
  omega
theorem crcL_inj (l : List UInt8) : ∀ n m, n < 65536 → m < 65536 → crcL n l = crcL m l → n = m := by
  induction l with
  | nil => intro n m _ _ h; exact h
  | cons b l ih =>
    intro n m hn hm h
    exact cfeed_inj n m b.toNat hn hm (UInt8.toNat_lt b) (ih _ _ (cfeed_lt n b.toNat hn (UInt8.toNat_lt b)) (cfeed_lt m b.toNat hm (UInt8.toNat_lt b)) h)
theorem crcL_set (l : List UInt8) : ∀ (n j : Nat) (x : UInt8) (hj : j < l.length), n < 65536 → x ≠ l[j] → crcL n (l.set j x) ≠ crcL n l := by
  induction l with
  | nil => intro n j x hj; simp at hj
  | cons b l ih =>
    intro n j x hj hn hx
    cases j with
    | zero =>
      intro h
      have h1 := crcL_inj l _ _ (cfeed_lt n x.toNat hn (UInt8.toNat_lt x)) (cfeed_lt n b.toNat hn (UInt8.toNat_lt b)) h
      exact hx (UInt8.toNat_inj.1 (cfeed_byte n _ _ hn (UInt8.toNat_lt x) (UInt8.toNat_lt b) h1))
    | succ j =>
      exact ih (cfeed n b.toNat) j x (by simpa using hj) (cfeed_lt n b.toNat hn (UInt8.toNat_lt b)) (by simpa using hx)

theorem putS_two (c : Nat) (h : c < 65536) : putS (c : Int) 2 = ⟨(putB c 2).toArray⟩ := by
  unfold putS
  rw [if_pos ⟨by omega, by omega, by omega, by simp; omega⟩]
  rfl
theorem putB_two_inj (c d : Nat) (hc : c < 65536) (hd : d < 65536) (h : putB c 2 = putB d 2) : c = d := by
  simp only [putB, List.cons.injEq] at h
  have h1 := congrArg UInt8.toNat h.1
  have h0 := congrArg UInt8.toNat h.2.1
  rw [byteN_val, byteN_val] at h1 h0
  simp at h1 h0
  omega
theorem sealS_list (s : ByteArray) : (sealS s).data.toList = s.data.toList ++ putB (crc s) 2 := by
  unfold sealS
  rw [putS_two _ (crc_lt s)]
  simp [ByteArray.data_append]
theorem sealS_size (s : ByteArray) : (sealS s).size = s.size + 2 := by
  have h := congrArg List.length (sealS_list s)
  rw [List.length_append, putB_len] at h
  simpa using h
theorem extract_list (s : ByteArray) (k : Nat) : (s.extract 0 k).data.toList = s.data.toList.take k := by simp [ByteArray.data_extract]

theorem open_seal (s : ByteArray) : openV (sealS s) = (s, true) := by
  have hx : (sealS s).extract 0 ((sealS s).size - 2) = s := by
    apply ByteArray.ext
    apply Array.toList_inj.1
    rw [extract_list, sealS_size, sealS_list, show s.size + 2 - 2 = s.data.toList.length from by simp, List.take_left]
  rw [openV_yes ⟨by rw [sealS_size]; omega, by rw [hx]; simp⟩, hx]

theorem open_turned (s t : ByteArray) (j : Nat) (x : UInt8) (hj : j < (sealS s).data.toList.length) (hx : x ≠ (sealS s).data.toList[j]) (ht : t.data.toList = (sealS s).data.toList.set j x) :
    openV t = (⟨#[]⟩, false) := by
  apply openV_no
  rintro ⟨h2, heq⟩
  have hsz : t.size = s.size + 2 := by
    have h := congrArg List.length ht
    rw [List.length_set, sealS_list, List.length_append, putB_len] at h
    simpa using h
  have heq2 : (sealS (t.extract 0 (t.size - 2))).data.toList = t.data.toList := by
    have h := eq_of_beq heq
    rwa [ByteArray.toList_eq, ByteArray.toList_eq] at h
  have hs : s.size = s.data.toList.length := by simp
  rw [sealS_list, extract_list, hsz, show s.size + 2 - 2 = s.size from by omega] at heq2
  by_cases hlt : j < s.size
  · have h1 : t.data.toList = s.data.toList.set j x ++ putB (crc s) 2 := by
      rw [ht, sealS_list, List.set_append_left _ _ (by omega)]
    have h2 : t.data.toList.take s.size = s.data.toList.set j x := by
      rw [h1, List.take_left' (by simp)]
    have hc : crc (t.extract 0 s.size) = crcL 65535 (s.data.toList.set j x) := by
      unfold crc
      rw [extract_list, h2]
    rw [h2, h1] at heq2
    have h3 := List.append_cancel_left heq2
    have h4 := putB_two_inj _ _ (crc_lt _) (crc_lt _) h3
    rw [hc] at h4
    refine crcL_set s.data.toList 65535 j x (by omega) (by decide) ?_ h4
    intro e
    apply hx
    rw [e]
    simp only [sealS_list]
    rw [List.getElem_append_left (by omega)]
  · have h1 : t.data.toList = s.data.toList ++ (putB (crc s) 2).set (j - s.size) x := by
      rw [ht, sealS_list, List.set_append_right _ _ (by omega), ← hs]
    have h2 : t.data.toList.take s.size = s.data.toList := by
      rw [h1, List.take_left' (by simp)]
    have hc : crc (t.extract 0 s.size) = crc s := by
      unfold crc
      rw [extract_list, h2]
    rw [h2, hc, h1] at heq2
    have h3 := List.append_cancel_left heq2
    have hj2 : j - s.size < (putB (crc s) 2).length := by
      rw [sealS_list, List.length_append] at hj
      omega
    apply hx
    have h4 : (putB (crc s) 2)[j - s.size] = x := by
      have h5 : ((putB (crc s) 2).set (j - s.size) x)[j - s.size]'(by rw [List.length_set]; exact hj2) = x := List.getElem_set_self _
      rw [← h5]
      congr 1
    rw [← h4]
    simp only [sealS_list]
    rw [List.getElem_append_right (by omega)]
    congr 1
end Go.Proofs.YtmmedhjmilgnbaaDoor
