/- What this text proves: facts about bytes and their bits: a byte is what its bits make; the bits of a text that are spread are gathered again. -/
import Derived.Test.YtdponcannphboabDoorByte
namespace Go.Proofs.YtdponcannphboabDoor
open Go
set_option linter.unusedVariables false

/-- The number whose first c bits are f's. -/
def bitsTo (f : Nat → Bool) : Nat → Nat
  | 0 => 0
  | c + 1 => bitsTo f c + (if f c then 2 ^ c else 0)
theorem bitsTo_lt (f : Nat → Bool) (c : Nat) : bitsTo f c < 2 ^ c := by
  induction c with
  | zero => simp [bitsTo]
  | succ c ih =>
    rw [bitsTo, Nat.pow_succ]
    split <;> omega
theorem bitsTo_or (f : Nat → Bool) (c : Nat) : bitsTo f (c + 1) = bitsTo f c ||| (if f c then 2 ^ c else 0) := by
  rw [bitsTo]
  cases f c
  · simp
  · have h := Nat.two_pow_add_eq_or_of_lt (bitsTo_lt f c) 1
    simp only [if_true]
    rw [Nat.mul_one] at h
    rw [Nat.add_comm, h, Nat.or_comm]
theorem bitsTo_bit (f : Nat → Bool) (c i : Nat) : (bitsTo f c).testBit i = (decide (i < c) && f i) := by
  induction c with
  | zero => simp [bitsTo]
  | succ c ih =>
    rw [bitsTo_or, Nat.testBit_or, ih]
    by_cases h1 : i < c
    · have h2 : i < c + 1 := by omega
      have h3 : ¬ c = i := by omega
      cases f c <;> simp [h1, h2, h3]
    · by_cases h4 : c = i
      · subst h4
        cases hf : f c <;> simp
      · have h2 : ¬ i < c + 1 := by omega
        cases f c <;> simp [h1, h2, h4]
theorem bitsTo_congr (f g : Nat → Bool) (c : Nat) (h : ∀ i, i < c → f i = g i) : bitsTo f c = bitsTo g c := by
  induction c with
  | zero => rfl
  | succ c ih => rw [bitsTo, bitsTo, ih (fun i hi => h i (by omega)), h c (by omega)]
/-- A byte is what its bits make. -/
theorem bitsTo_byte (x : Nat) (h : x < 256) : bitsTo (fun i => x.testBit i) 8 = x := by
  refine Nat.eq_of_testBit_eq fun i => ?_
  rw [bitsTo_bit]
  by_cases hi : i < 8
  · simp [hi]
  · have : x.testBit i = false := Nat.testBit_lt_two_pow (Nat.lt_of_lt_of_le h (by
      have := Nat.pow_le_pow_right (show 0 < 2 by decide) (show 8 ≤ i by omega)
      simpa using this))
    simp [this, hi]
theorem bitsTo_inj (f g : Nat → Bool) (h : ∀ i, i < 8 → f i = g i) : bitsTo f 8 = bitsTo g 8 := bitsTo_congr f g 8 h
def byteOf (f : Nat → Bool) (c : Nat) : UInt8 := UInt8.ofNat (bitsTo f c)
theorem byteOf_nat (f : Nat → Bool) (c : Nat) (h : c ≤ 8) : (byteOf f c).toNat = bitsTo f c := by
  have h1 := bitsTo_lt f c
  have h2 : 2 ^ c ≤ 2 ^ 8 := Nat.pow_le_pow_right (by decide) h
  unfold byteOf
  rw [UInt8.toNat_ofNat']
  omega

/-- A text of n bytes by their bits. -/
def textOf (n : Nat) (F : Nat → Nat → Bool) : ByteArray := ⟨((List.range n).map fun j => byteOf (F j) 8).toArray⟩
theorem textOf_size (n : Nat) (F : Nat → Nat → Bool) : (textOf n F).size = n := by
  show ((List.range n).map _).toArray.size = n
  simp
theorem textOf_byte (n : Nat) (F : Nat → Nat → Bool) (j : Nat) (h : j < n) : byteAt (textOf n F) j = bitsTo (F j) 8 := by
  unfold byteAt textOf
  rw [List.getD_eq_getElem?_getD]
  simp [h, byteOf_nat]
theorem textOf_congr (n : Nat) (F G : Nat → Nat → Bool) (h : ∀ j, j < n → ∀ i, i < 8 → F j i = G j i) : textOf n F = textOf n G := by
  unfold textOf
  congr 2
  refine List.map_congr_left fun j hj => ?_
  unfold byteOf
  rw [bitsTo_congr _ _ 8 (h j (List.mem_range.1 hj))]
theorem byteAt_ge (s : ByteArray) (j : Nat) (h : s.size ≤ j) : byteAt s j = 0 := by
  have h' : s.data.toList.length ≤ j := by simpa using h
  unfold byteAt
  rw [List.getD_eq_getElem?_getD, List.getElem?_eq_none h']
  rfl
theorem text_ext (s t : ByteArray) (hs : s.size = t.size) (h : ∀ j, j < s.size → byteAt s j = byteAt t j) : s = t := by
  refine ByteArray.ext (Array.ext hs fun j h1 h2 => ?_)
  have e := h j h1
  have e1 : byteAt s j = (s.data[j]).toNat := by
    unfold byteAt
    rw [List.getD_eq_getElem?_getD, List.getElem?_eq_getElem (by simpa using h1)]
    simp
  have e2 : byteAt t j = (t.data[j]).toNat := by
    unfold byteAt
    rw [List.getD_eq_getElem?_getD, List.getElem?_eq_getElem (by simpa using h2)]
    simp
  rw [e1, e2] at e
  exact UInt8.toNat_inj.1 e
/-- A text by its own bits. -/
theorem textOf_self (s : ByteArray) : textOf s.size (fun j i => (byteAt s j).testBit i) = s := by
  refine text_ext _ _ (textOf_size _ _) fun j hj => ?_
  rw [textOf_size] at hj
  rw [textOf_byte _ _ _ hj]
  exact bitsTo_byte _ (byteAt_lt s j)
theorem textOf_bit (n : Nat) (F : Nat → Nat → Bool) (j i : Nat) (h : j < n) : (byteAt (textOf n F) j).testBit i = (decide (i < 8) && F j i) := by
  rw [textOf_byte _ _ _ h, bitsTo_bit]

/-- The bit at a place. -/
def placeB (s : ByteArray) (p : Nat) : Bool := (byteAt s (p / 8)).testBit (p % 8)
/-- The bit that comes to a place. -/
def sprB (s : ByteArray) (p : Nat) : Bool := (byteAt s (p % s.size)).testBit (p / s.size)
def spreadT (s : ByteArray) : ByteArray := textOf s.size (fun j i => sprB s (8 * j + i))
def gatherT (s : ByteArray) : ByteArray := textOf s.size (fun m k => placeB s (k * s.size + m))
theorem spreadT_size (s : ByteArray) : (spreadT s).size = s.size := textOf_size _ _
theorem gatherT_size (s : ByteArray) : (gatherT s).size = s.size := textOf_size _ _
theorem place_spread (s : ByteArray) (p : Nat) (h : p < 8 * s.size) : placeB (spreadT s) p = sprB s p := by
  unfold placeB spreadT
  rw [textOf_bit _ _ _ _ (by omega)]
  have h8 : p % 8 < 8 := Nat.mod_lt _ (by decide)
  have e : 8 * (p / 8) + p % 8 = p := by omega
  rw [e]
  simp [h8]
theorem spr_at (s : ByteArray) (k m : Nat) (hm : m < s.size) : sprB s (k * s.size + m) = (byteAt s m).testBit k := by
  have h0 : 0 < s.size := by omega
  have e1 : (k * s.size + m) % s.size = m := by rw [Nat.add_comm, Nat.add_mul_mod_self_right, Nat.mod_eq_of_lt hm]
  have e2 : (k * s.size + m) / s.size = k := by rw [Nat.add_comm, Nat.add_mul_div_right _ _ h0, Nat.div_eq_of_lt hm, Nat.zero_add]
  unfold sprB
  rw [e1, e2]
theorem place_lt (n k m : Nat) (hk : k < 8) (hm : m < n) : k * n + m < 8 * n := by
  have : (k + 1) * n ≤ 8 * n := Nat.mul_le_mul_right _ (by omega)
  rw [Nat.succ_mul] at this
  omega
/-- What was spread is gathered again. -/
theorem gather_spread (s : ByteArray) : gatherT (spreadT s) = s := by
  unfold gatherT
  rw [spreadT_size]
  refine (textOf_congr _ _ _ fun m hm k hk => ?_).trans (textOf_self s)
  rw [place_spread s _ (place_lt _ _ _ hk hm), spr_at s k m hm]
end Go.Proofs.YtdponcannphboabDoor
