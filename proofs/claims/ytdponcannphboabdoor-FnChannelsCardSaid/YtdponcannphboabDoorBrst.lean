/- What this text proves: plain facts on a text some bits of which, that follow one another, are changed one by one. -/
import Derived.Test.YtdponcannphboabDoorLnkS
import Derived.Test.YtdponcannphboabDoorLnkU
import Derived.Test.YtdponcannphboabDoorRand
namespace Go.Proofs.YtdponcannphboabDoor

/-- The byte j of a text whose bits from place a to place b (without it) are changed. -/
def hitB (s : ByteArray) (a b j : Nat) : Nat := bitsTo (fun i => (byteAt s j).testBit i ^^ (decide (a ≤ 8 * j + i) && decide (8 * j + i < b))) 8
def hitL (s : ByteArray) (a b : Nat) : List UInt8 := (List.range s.size).map fun j => byteOf (fun i => (byteAt s j).testBit i ^^ (decide (a ≤ 8 * j + i) && decide (8 * j + i < b))) 8
theorem hitL_len (s : ByteArray) (a b : Nat) : (hitL s a b).length = s.size := by simp [hitL]
theorem hitL_flip (s : ByteArray) (a b : Nat) : (⟨(hitL s a b).toArray⟩ : ByteArray) = flipT s a b := rfl
theorem hitB_lt (s : ByteArray) (a b j : Nat) : hitB s a b j < 256 := bitsTo_lt _ 8
theorem hitL_at (s : ByteArray) (a b j : Nat) (h : j < (hitL s a b).length) : (hitL s a b)[j].toNat = hitB s a b j := by
  simp only [hitL, List.getElem_map, List.getElem_range]
  exact byteOf_nat _ 8 (Nat.le_refl _)
theorem hitL_eq (s : ByteArray) (a b j : Nat) (h : j < (hitL s a b).length) : (hitL s a b)[j] = UInt8.ofNat (hitB s a b j) := by
  simp only [hitL, List.getElem_map, List.getElem_range]
  rfl
theorem hitB_none (s : ByteArray) (a j : Nat) : hitB s a a j = byteAt s j := by
  unfold hitB
  rw [← bitsTo_byte (byteAt s j) (byteAt_lt s j)]
  refine bitsTo_congr _ _ 8 fun i hi => ?_
  rw [bitsTo_byte (byteAt s j) (byteAt_lt s j)]
  have : (decide (a ≤ 8 * j + i) && decide (8 * j + i < a)) = false := by
    rw [Bool.and_eq_false_iff]
    simp
    omega
  rw [this, Bool.xor_false]
theorem hitL_none (s : ByteArray) (a : Nat) : s.data.toList = hitL s a a := by
  apply List.ext_getElem
  · rw [hitL_len]; simp
  · intro j h1 h2
    rw [hitL_eq, hitB_none]
    have h3 : j < s.size := by rw [hitL_len] at h2; exact h2
    apply UInt8.toNat_inj.1
    rw [ofNat_nat _ (byteAt_lt s j)]
    show s.data.toList[j].toNat = byteAt s j
    rw [← byteAt_of s j h3]
    rfl
theorem hitB_step (s : ByteArray) (a b : Nat) (hab : a ≤ b) : hitB s a (b + 1) (b / 8) = hitB s a b (b / 8) ^^^ 2 ^ (b % 8) := by
  refine Nat.eq_of_testBit_eq fun i => ?_
  rw [Nat.testBit_xor, Nat.testBit_two_pow]
  unfold hitB
  rw [bitsTo_bit, bitsTo_bit]
  by_cases hi : i < 8
  · by_cases he : b % 8 = i
    · have h1 : 8 * (b / 8) + i = b := by omega
      rw [h1]
      simp [hi, he, hab]
    · have h1 : (decide (8 * (b / 8) + i < b + 1)) = decide (8 * (b / 8) + i < b) := by
        rw [decide_eq_decide]
        omega
      rw [h1]
      simp [he]
  · have he : ¬ b % 8 = i := by omega
    simp [hi, he]
theorem hitB_other (s : ByteArray) (a b j : Nat) (h : j ≠ b / 8) : hitB s a (b + 1) j = hitB s a b j := by
  unfold hitB
  refine bitsTo_congr _ _ 8 fun i hi => ?_
  have h1 : (decide (8 * j + i < b + 1)) = decide (8 * j + i < b) := by
    rw [decide_eq_decide]
    omega
  rw [h1]
theorem hitL_step (s : ByteArray) (a b : Nat) (hab : a ≤ b) : (hitL s a b).set (b / 8) (UInt8.ofNat (hitB s a b (b / 8) ^^^ 2 ^ (b % 8))) = hitL s a (b + 1) := by
  apply List.ext_getElem
  · rw [List.length_set, hitL_len, hitL_len]
  · intro j h1 h2
    rw [hitL_eq, List.getElem_set]
    by_cases he : b / 8 = j
    · rw [if_pos he]
      subst he
      rw [hitB_step s a b hab]
    · rw [if_neg he, hitL_eq, hitB_other s a b j (by omega)]

/-- What BurstText returns. -/
noncomputable def burstV (c : Int) (s : ByteArray) : Int × ByteArray := open Classical in
  if 0 ≤ c ∧ c ≤ 65535 ∧ 1 ≤ s.size ∧ s.size ≤ 400 then
    (nextR (nextR c), flipT s (nextR c / 16 % (7 * (s.size : Int) + 1)).toNat ((nextR c / 16 % (7 * (s.size : Int) + 1)).toNat + (nextR (nextR c) / 16 % (s.size : Int)).toNat + 1))
  else (c, s)
def retZ (p : Int × ByteArray) : Go.Ending := .returned (.tuple #[.int .i64 p.1, .string p.2])
theorem burstV_in (c : Int) (s : ByteArray) (h : 0 ≤ c ∧ c ≤ 65535 ∧ 1 ≤ s.size ∧ s.size ≤ 400) : ∃ (x y : Int) (a k : Nat),
    belowR c (7 * (s.size : Int) + 1) = (x, (a : Int)) ∧ belowR x (s.size : Int) = (y, (k : Int)) ∧ 0 ≤ x ∧ x ≤ 65535 ∧ a ≤ 7 * s.size ∧ k < s.size ∧ burstV c s = (y, flipT s a (a + k + 1)) := by
  obtain ⟨h0, h1, h2, h3⟩ := h
  have l1 := nextR_lo c
  have l2 := nextR_hi c
  have l3 := nextR_lo (nextR c)
  have m1 := Int.emod_nonneg (nextR c / 16) (show (7 * (s.size : Int) + 1) ≠ 0 by omega)
  have m2 := Int.emod_lt_of_pos (nextR c / 16) (show 0 < (7 * (s.size : Int) + 1) by omega)
  have m3 := Int.emod_nonneg (nextR (nextR c) / 16) (show (s.size : Int) ≠ 0 by omega)
  have m4 := Int.emod_lt_of_pos (nextR (nextR c) / 16) (show 0 < (s.size : Int) by omega)
  refine ⟨nextR c, nextR (nextR c), (nextR c / 16 % (7 * (s.size : Int) + 1)).toNat, (nextR (nextR c) / 16 % (s.size : Int)).toNat, ?_, ?_, l1, l2, by omega, by omega, ?_⟩
  · unfold belowR
    rw [if_pos (by omega)]
    congr 1
    omega
  · unfold belowR
    rw [if_pos (by omega)]
    congr 1
    omega
  · unfold burstV
    rw [if_pos ⟨h0, h1, h2, h3⟩]
theorem burstV_out (c : Int) (s : ByteArray) (h : ¬ (0 ≤ c ∧ c ≤ 65535 ∧ 1 ≤ s.size ∧ s.size ≤ 400)) : burstV c s = (c, s) := by
  unfold burstV
  rw [if_neg h]
theorem burstV_size (c : Int) (s : ByteArray) : (burstV c s).2.size = s.size := by
  unfold burstV
  split
  · exact flipT_size _ _ _
  · rfl
end Go.Proofs.YtdponcannphboabDoor
