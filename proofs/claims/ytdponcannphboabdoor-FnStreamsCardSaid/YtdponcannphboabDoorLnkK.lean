/- What this text proves: a block is read as it was sent, whatever burst of as many bits as it has code words has hit it. -/
import Derived.Test.YtdponcannphboabDoorLnkS
namespace Go.Proofs.YtdponcannphboabDoor
open Go
set_option linter.unusedVariables false

theorem gather_bit (u : ByteArray) (m k : Nat) (hm : m < u.size) (hk : k < 8) : (byteAt (gatherT u) m).testBit k = placeB u (k * u.size + m) := by
  unfold gatherT
  rw [textOf_bit _ _ _ _ hm]
  simp [hk]
/-- Of one code word a burst hits at most one bit. -/
theorem hit_once (n a b m k i : Nat) (hl : b ≤ a + n) (h1 : a ≤ k * n + m) (h2 : k * n + m < b) (h3 : a ≤ i * n + m) (h4 : i * n + m < b) : k = i := by
  rcases Nat.lt_trichotomy k i with h | h | h
  · have := Nat.mul_le_mul_right n (show k + 1 ≤ i by omega)
    rw [Nat.succ_mul] at this
    omega
  · exact h
  · have := Nat.mul_le_mul_right n (show i + 1 ≤ k by omega)
    rw [Nat.succ_mul] at this
    omega
theorem gather_hit (u : ByteArray) (a b m k : Nat) (hb : b ≤ 8 * u.size) (hl : b ≤ a + u.size) (hm : m < u.size) (hk : k < 8) (h1 : a ≤ k * u.size + m) (h2 : k * u.size + m < b) :
    byteAt (gatherT (flipT u a b)) m = byteAt (gatherT u) m ^^^ 2 ^ k := by
  refine Nat.eq_of_testBit_eq fun i => ?_
  rw [Nat.testBit_xor, Nat.testBit_two_pow]
  by_cases hi : i < 8
  · rw [gather_bit _ _ _ (by rw [flipT_size]; exact hm) hi, gather_bit _ _ _ hm hi, flipT_size, place_flip _ _ _ _ (place_lt _ _ _ hi hm)]
    congr 1
    by_cases e : k = i
    · subst e
      simp [h1, h2]
    · have : ¬ (a ≤ i * u.size + m ∧ i * u.size + m < b) := fun h => e (hit_once u.size a b m k i hl h1 h2 h.1 h.2)
      rw [← Bool.decide_and, decide_eq_false this, decide_eq_false e]
  · rw [byte_bits_hi _ _ _ hi, byte_bits_hi _ _ _ hi]
    have : ¬ k = i := by omega
    simp [this]
theorem gather_free (u : ByteArray) (a b m : Nat) (hm : m < u.size) (h : ¬ ∃ k, k < 8 ∧ a ≤ k * u.size + m ∧ k * u.size + m < b) :
    byteAt (gatherT (flipT u a b)) m = byteAt (gatherT u) m := by
  refine Nat.eq_of_testBit_eq fun i => ?_
  by_cases hi : i < 8
  · rw [gather_bit _ _ _ (by rw [flipT_size]; exact hm) hi, gather_bit _ _ _ hm hi, flipT_size, place_flip _ _ _ _ (place_lt _ _ _ hi hm)]
    have : ¬ (a ≤ i * u.size + m ∧ i * u.size + m < b) := fun h2 => h ⟨i, hi, h2.1, h2.2⟩
    rw [← Bool.decide_and, decide_eq_false this, Bool.xor_false]
  · rw [byte_bits_hi _ _ _ hi, byte_bits_hi _ _ _ hi]

/-- What follows the mark in a block. -/
def bodyT (s : ByteArray) : ByteArray := scrT (spreadT (encT s))
theorem bodyT_size (s : ByteArray) : (bodyT s).size = 2 * s.size := by unfold bodyT; rw [scrT_size, spreadT_size, encT_size]
noncomputable def readV (s : ByteArray) : ByteArray × Int × Bool := if s.size = 0 then (⟨#[]⟩, 0, false) else decT (gatherT (scrT s))
theorem readV_body (s : ByteArray) (h0 : 0 < s.size) (hs : s.size ≤ 200) : readV (bodyT s) = (s, 0, true) := by
  unfold readV
  rw [if_neg (by rw [bodyT_size]; omega)]
  unfold bodyT
  rw [scr_scr, gather_spread, dec_enc_block s hs]
open Classical in
/-- Whether a burst hits the code word m. -/
noncomputable def hitC (n a b m : Nat) : Int := if ∃ k, k < 8 ∧ a ≤ k * n + m ∧ k * n + m < b then 1 else 0
theorem readV_burst (s : ByteArray) (h0 : 0 < s.size) (hs : s.size ≤ 200) (a b : Nat) (hab : a < b) (hb : b ≤ 8 * (2 * s.size)) (hl : b ≤ a + 2 * s.size) :
    ∃ c : Int, 1 ≤ c ∧ c ≤ 2 * s.size ∧ readV (flipT (bodyT s) a b) = (s, c, true) := by
  have hz := bodyT_size s
  have key : decT (gatherT (flipT (spreadT (encT s)) a b)) = (s, sumTo (hitC (2 * s.size) a b) (2 * s.size), true) := by
    have hu : (spreadT (encT s)).size = 2 * s.size := by rw [spreadT_size, encT_size]
    refine dec_near s _ _ hs (by rw [gatherT_size, flipT_size, hu]) fun i hi => ?_
    have hg : byteAt (gatherT (spreadT (encT s))) i = encN (nib s i) := by rw [gather_spread, encT_byte s i hi]
    by_cases h : ∃ k, k < 8 ∧ a ≤ k * (2 * s.size) + i ∧ k * (2 * s.size) + i < b
    · have hc : hitC (2 * s.size) a b i = 1 := if_pos h
      obtain ⟨k, hk, h1, h2⟩ := h
      rw [gather_hit _ a b i k (by rw [hu]; exact hb) (by rw [hu]; exact hl) (by rw [hu]; exact hi) hk (by rw [hu]; exact h1) (by rw [hu]; exact h2), hg, word_one _ _ (nib_lt s i) hk, hc]
    · have hc : hitC (2 * s.size) a b i = 0 := if_neg h
      rw [gather_free _ a b i (by rw [hu]; exact hi) (by rw [hu]; exact h), hg, word_same _ (nib_lt s i), hc]
  have hr : ∀ i, 0 ≤ hitC (2 * s.size) a b i ∧ hitC (2 * s.size) a b i ≤ 1 := fun i => by unfold hitC; split <;> omega
  refine ⟨sumTo (hitC (2 * s.size) a b) (2 * s.size), ?_, ?_, ?_⟩
  · refine sumTo_pos _ _ (a % (2 * s.size)) (fun i _ => hr i) (Nat.mod_lt _ (by omega)) (if_pos ⟨a / (2 * s.size), ?_, ?_, ?_⟩)
    · refine Nat.div_lt_of_lt_mul ?_
      omega
    · have := Nat.div_add_mod' a (2 * s.size)
      omega
    · have := Nat.div_add_mod' a (2 * s.size)
      omega
  · have := (sumTo_le (hitC (2 * s.size) a b) (2 * s.size) (fun i _ => hr i)).2
    omega
  · unfold readV
    rw [if_neg (by rw [flipT_size]; omega)]
    unfold bodyT
    rw [flip_scr, scr_scr, key]
theorem flip_other (u : ByteArray) (a b : Nat) (hab : a < b) (hb : b ≤ 8 * u.size) : flipT u a b ≠ u := by
  intro h
  have e := place_flip u a b a (by omega)
  rw [h] at e
  simp [hab] at e
end Go.Proofs.YtdponcannphboabDoor
