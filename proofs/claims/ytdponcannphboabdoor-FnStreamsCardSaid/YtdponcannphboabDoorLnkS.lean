/- What this text proves: facts about blocks: what was scrambled twice is as it was; a block is read as it was made, whatever burst of as many bits as it has code words has hit it. -/
import Derived.Test.YtdponcannphboabDoorLnkW
import Derived.Test.YtdponcannphboabDoorLnkB
namespace Go.Proofs.YtdponcannphboabDoor
open Go
set_option linter.unusedVariables false

/-- A text by its bytes. -/
def bytesT (n : Nat) (f : Nat → Nat) : ByteArray := ⟨((List.range n).map fun j => UInt8.ofNat (f j)).toArray⟩
theorem bytesT_size (n : Nat) (f : Nat → Nat) : (bytesT n f).size = n := by
  show ((List.range n).map _).toArray.size = n
  simp
theorem bytesT_byte (n : Nat) (f : Nat → Nat) (j : Nat) (h : j < n) (hf : f j < 256) : byteAt (bytesT n f) j = f j := by
  unfold byteAt bytesT
  rw [List.getD_eq_getElem?_getD]
  simp [h]
  omega
theorem bytesT_succ (n : Nat) (f : Nat → Nat) : (List.range (n + 1)).map (fun j => UInt8.ofNat (f j)) = (List.range n).map (fun j => UInt8.ofNat (f j)) ++ [UInt8.ofNat (f n)] := by
  rw [List.range_succ, List.map_append]
  rfl

/-- The sequence of the scrambler. -/
def nextX (x : Nat) : Nat := (x * 2 % 256) ||| ((x / 128 ^^^ x / 16 ^^^ x / 4 ^^^ x) % 2)
def seqX : Nat → Nat
  | 0 => 255
  | k + 1 => nextX (seqX k)
theorem nextX_lt (x : Nat) : nextX x < 256 := Nat.or_lt_two_pow (n := 8) (by omega) (by omega)
theorem seqX_lt (k : Nat) : seqX k < 256 := by
  cases k with
  | zero => decide
  | succ k => exact nextX_lt _
def scrT (s : ByteArray) : ByteArray := bytesT s.size fun k => byteAt s k ^^^ seqX k
theorem scr_lt (s : ByteArray) (k : Nat) : byteAt s k ^^^ seqX k < 256 := Nat.xor_lt_two_pow (n := 8) (byteAt_lt s k) (seqX_lt k)
theorem scrT_size (s : ByteArray) : (scrT s).size = s.size := bytesT_size _ _
theorem scrT_byte (s : ByteArray) (k : Nat) (h : k < s.size) : byteAt (scrT s) k = byteAt s k ^^^ seqX k := bytesT_byte _ _ _ h (scr_lt s k)
theorem scr_scr (s : ByteArray) : scrT (scrT s) = s := by
  refine text_ext _ _ (by rw [scrT_size, scrT_size]) fun j hj => ?_
  rw [scrT_size, scrT_size] at hj
  rw [scrT_byte _ _ (by rw [scrT_size]; exact hj), scrT_byte _ _ hj, Nat.xor_assoc, Nat.xor_self, Nat.xor_zero]

/-- The numbers of 4 bits of a text. -/
def nib (s : ByteArray) (i : Nat) : Nat := if i % 2 = 0 then byteAt s (i / 2) / 16 else byteAt s (i / 2) % 16
theorem nib_lt (s : ByteArray) (i : Nat) : nib s i < 16 := by
  have h := byteAt_lt s (i / 2)
  unfold nib
  split <;> omega
theorem nib_hi (s : ByteArray) (k : Nat) : nib s (2 * k) = byteAt s k / 16 := by unfold nib; rw [if_pos (by omega), show 2 * k / 2 = k by omega]
theorem nib_lo (s : ByteArray) (k : Nat) : nib s (2 * k + 1) = byteAt s k % 16 := by unfold nib; rw [if_neg (by omega), show (2 * k + 1) / 2 = k by omega]
def encT (s : ByteArray) : ByteArray := bytesT (2 * s.size) fun i => encN (nib s i)
theorem encT_size (s : ByteArray) : (encT s).size = 2 * s.size := bytesT_size _ _
theorem encT_byte (s : ByteArray) (i : Nat) (h : i < 2 * s.size) : byteAt (encT s) i = encN (nib s i) := bytesT_byte _ _ _ h (encN_lt _ (nib_lt s i))

def sumTo (f : Nat → Int) : Nat → Int
  | 0 => 0
  | k + 1 => sumTo f k + f k
theorem sumTo_congr (f g : Nat → Int) (n : Nat) (h : ∀ i, i < n → f i = g i) : sumTo f n = sumTo g n := by
  induction n with
  | zero => rfl
  | succ n ih => rw [sumTo, sumTo, ih (fun i hi => h i (by omega)), h n (by omega)]
theorem sumTo_zero (n : Nat) : sumTo (fun _ => 0) n = 0 := by
  induction n with
  | zero => rfl
  | succ n ih => rw [sumTo, ih]; rfl
theorem sumTo_le (f : Nat → Int) (n : Nat) (h : ∀ i, i < n → 0 ≤ f i ∧ f i ≤ 1) : 0 ≤ sumTo f n ∧ sumTo f n ≤ n := by
  induction n with
  | zero => exact ⟨Int.le_refl _, Int.le_refl _⟩
  | succ n ih =>
    have h1 := ih (fun i hi => h i (by omega))
    have h2 := h n (by omega)
    rw [sumTo]
    omega
theorem sumTo_pos (f : Nat → Int) (n j : Nat) (h : ∀ i, i < n → 0 ≤ f i ∧ f i ≤ 1) (hj : j < n) (h1 : f j = 1) : 1 ≤ sumTo f n := by
  induction n with
  | zero => omega
  | succ n ih =>
    have h2 := h n (by omega)
    have h3 := sumTo_le f n (fun i hi => h i (by omega))
    rw [sumTo]
    by_cases e : j = n
    · subst e; omega
    · have := ih (fun i hi => h i (by omega)) (by omega)
      omega
def decOk (t : ByteArray) : Prop := t.size % 2 = 0 ∧ t.size ≤ 400 ∧ ∀ i, i < t.size → 0 ≤ (decN (byteAt t i)).1
def decBy (t : ByteArray) (k : Nat) : Nat := 16 * (decN (byteAt t (2 * k))).1.toNat + (decN (byteAt t (2 * k + 1))).1.toNat
def decSum (t : ByteArray) (k : Nat) : Int := sumTo (fun i => (decN (byteAt t i)).2) k
noncomputable def decT (t : ByteArray) : ByteArray × Int × Bool := open Classical in if decOk t then (bytesT (t.size / 2) (decBy t), decSum t t.size, true) else (⟨#[]⟩, 0, false)
theorem decT_yes {t : ByteArray} (h : decOk t) : decT t = (bytesT (t.size / 2) (decBy t), decSum t t.size, true) := by unfold decT; rw [if_pos h]
theorem decT_no {t : ByteArray} (h : ¬ decOk t) : decT t = (⟨#[]⟩, 0, false) := by unfold decT; rw [if_neg h]
/-- A text whose bytes are code words of s, or nearly, is read as s. -/
theorem dec_near (s t : ByteArray) (c : Nat → Int) (hs : s.size ≤ 200) (ht : t.size = 2 * s.size) (h : ∀ i, i < 2 * s.size → decN (byteAt t i) = ((nib s i : Int), c i)) :
    decT t = (s, sumTo c (2 * s.size), true) := by
  have hok : decOk t := by
    refine ⟨by omega, by omega, fun i hi => ?_⟩
    rw [h i (by omega)]
    exact Int.natCast_nonneg _
  rw [decT_yes hok]
  have e1 : bytesT (t.size / 2) (decBy t) = s := by
    refine text_ext _ _ (by rw [bytesT_size]; omega) fun j hj => ?_
    rw [bytesT_size] at hj
    have hd : decBy t j = byteAt s j := by
      unfold decBy
      rw [h (2 * j) (by omega), h (2 * j + 1) (by omega), nib_hi, nib_lo]
      simp
      omega
    rw [bytesT_byte _ _ _ hj (by rw [hd]; exact byteAt_lt s j), hd]
  have e2 : decSum t t.size = sumTo c (2 * s.size) := by
    unfold decSum
    rw [ht]
    exact sumTo_congr _ _ _ fun i hi => by rw [h i hi]
  rw [e1, e2]
theorem dec_enc_block (s : ByteArray) (hs : s.size ≤ 200) : decT (encT s) = (s, 0, true) := by
  rw [dec_near s (encT s) (fun _ => 0) hs (encT_size s) (fun i hi => by rw [encT_byte s i hi]; exact word_same _ (nib_lt s i)), sumTo_zero]

/-- The bits from a on, up to b, are changed. -/
def flipT (s : ByteArray) (a b : Nat) : ByteArray := textOf s.size fun j i => ((byteAt s j).testBit i) ^^ (decide (a ≤ 8 * j + i) && decide (8 * j + i < b))
theorem flipT_size (s : ByteArray) (a b : Nat) : (flipT s a b).size = s.size := textOf_size _ _
theorem place_flip (s : ByteArray) (a b p : Nat) (h : p < 8 * s.size) : placeB (flipT s a b) p = (placeB s p ^^ (decide (a ≤ p) && decide (p < b))) := by
  unfold placeB flipT
  rw [textOf_bit _ _ _ _ (by omega)]
  have h8 : p % 8 < 8 := Nat.mod_lt _ (by decide)
  have e : 8 * (p / 8) + p % 8 = p := by omega
  rw [e]
  simp [h8]
theorem byte_bits_hi (s : ByteArray) (j i : Nat) (h : ¬ i < 8) : (byteAt s j).testBit i = false := by
  refine Nat.testBit_lt_two_pow (Nat.lt_of_lt_of_le (byteAt_lt s j) ?_)
  have := Nat.pow_le_pow_right (show 0 < 2 by decide) (show 8 ≤ i by omega)
  simpa using this
theorem flip_scr (s : ByteArray) (a b : Nat) : scrT (flipT s a b) = flipT (scrT s) a b := by
  refine text_ext _ _ (by rw [scrT_size, flipT_size, flipT_size, scrT_size]) fun j hj => ?_
  rw [scrT_size, flipT_size] at hj
  rw [scrT_byte _ _ (by rw [flipT_size]; exact hj)]
  refine Nat.eq_of_testBit_eq fun i => ?_
  by_cases hi : i < 8
  · rw [Nat.testBit_xor]
    unfold flipT
    rw [textOf_bit _ _ _ _ hj, textOf_bit _ _ _ _ (by rw [scrT_size]; exact hj), scrT_byte s j hj, Nat.testBit_xor]
    simp only [hi, decide_true, Bool.true_and]
    cases (byteAt s j).testBit i <;> cases (seqX j).testBit i <;> cases decide (a ≤ 8 * j + i) && decide (8 * j + i < b) <;> rfl
  · rw [byte_bits_hi _ _ _ hi]
    have h1 : (byteAt (flipT s a b) j ^^^ seqX j) < 2 ^ i := Nat.lt_of_lt_of_le (Nat.xor_lt_two_pow (n := 8) (byteAt_lt _ j) (seqX_lt j)) (Nat.pow_le_pow_right (by decide) (by omega))
    exact Nat.testBit_lt_two_pow h1
end Go.Proofs.YtdponcannphboabDoor
