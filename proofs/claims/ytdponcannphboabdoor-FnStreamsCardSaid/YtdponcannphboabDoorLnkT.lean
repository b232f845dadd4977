/- What this text proves: plain facts about bits that are set one after another in a row of bytes, whatever their order. -/
import Derived.Test.YtdponcannphboabDoorLnkB
namespace Go.Proofs.YtdponcannphboabDoor
open Go
set_option linter.unusedVariables false

/-- The bytes when the places of dn are set. -/
def stT (n : Nat) (dn B : Nat → Bool) : List UInt8 := (List.range n).map fun j => byteOf (fun i => dn (8 * j + i) && B (8 * j + i)) 8
theorem stT_len (n : Nat) (dn B : Nat → Bool) : (stT n dn B).length = n := by simp [stT]
theorem stT_at (n : Nat) (dn B : Nat → Bool) (j : Nat) (h : j < (stT n dn B).length) : (stT n dn B)[j] = byteOf (fun i => dn (8 * j + i) && B (8 * j + i)) 8 := by
  simp [stT]
theorem stT_congr (n : Nat) (dn dn' B : Nat → Bool) (h : ∀ p, p < 8 * n → dn p = dn' p) : stT n dn B = stT n dn' B := by
  unfold stT byteOf
  refine List.map_congr_left fun j hj => ?_
  have hj' := List.mem_range.1 hj
  rw [bitsTo_congr _ _ 8 fun i hi => by rw [h (8 * j + i) (by omega)]]
theorem stT_none (n : Nat) (dn B : Nat → Bool) (h : ∀ p, p < 8 * n → dn p = false) : stT n dn B = List.replicate n 0 := by
  rw [stT_congr n dn (fun _ => false) B h]
  refine List.ext_getElem (by simp [stT]) fun j h1 h2 => ?_
  rw [stT_at]
  simp
  rfl
theorem stT_all (n : Nat) (dn B : Nat → Bool) (h : ∀ p, p < 8 * n → dn p = true) : (⟨(stT n dn B).toArray⟩ : ByteArray) = textOf n fun j i => B (8 * j + i) := by
  rw [stT_congr n dn (fun _ => true) B h]
  unfold stT textOf
  congr 2
/-- What the byte is that holds a place. -/
def stB (dn B : Nat → Bool) (j : Nat) : Nat := bitsTo (fun i => dn (8 * j + i) && B (8 * j + i)) 8
theorem stB_lt (dn B : Nat → Bool) (j : Nat) : stB dn B j < 256 := bitsTo_lt _ 8
theorem stT_nat (n : Nat) (dn B : Nat → Bool) (j : Nat) (h : j < (stT n dn B).length) : (stT n dn B)[j].toNat = stB dn B j := by
  rw [stT_at, byteOf_nat _ _ (by omega)]
  rfl
theorem stB_or (dn B : Nat → Bool) (P : Nat) : stB (fun p => dn p || p == P) B (P / 8) = stB dn B (P / 8) ||| (if B P then 2 ^ (P % 8) else 0) := by
  refine Nat.eq_of_testBit_eq fun i => ?_
  unfold stB
  rw [Nat.testBit_or, bitsTo_bit, bitsTo_bit]
  by_cases hi : i < 8
  · by_cases e : 8 * (P / 8) + i = P
    · have e2 : P % 8 = i := by omega
      simp only [e, e2, hi, decide_true, Bool.true_and, beq_self_eq_true, Bool.or_true]
      cases B P <;> simp
    · have e2 : ¬ P % 8 = i := by omega
      have e3 : ((8 * (P / 8) + i) == P) = false := by simp [e]
      simp only [e3, Bool.or_false]
      cases B P
      · simp
      · simp [e2]
  · have e2 : ¬ P % 8 = i := by omega
    cases B P <;> simp [hi, e2]
theorem stT_step (n : Nat) (dn B : Nat → Bool) (P : Nat) (h : P < 8 * n) : (stT n dn B).set (P / 8) (UInt8.ofNat (stB dn B (P / 8) ||| (if B P then 2 ^ (P % 8) else 0))) = stT n (fun p => dn p || p == P) B := by
  refine List.ext_getElem (by simp [stT]) fun j h1 h2 => ?_
  rw [List.getElem_set, stT_at]
  split
  · rename_i e
    subst e
    rw [← stB_or, stT_at]
    rfl
  · rename_i e
    rw [stT_at]
    unfold byteOf
    rw [bitsTo_congr _ _ 8 fun i hi => ?_]
    show (dn (8 * j + i) && B (8 * j + i)) = ((dn (8 * j + i) || (8 * j + i == P)) && B (8 * j + i))
    have e3 : ((8 * j + i) == P) = false := by simp; omega
    rw [e3, Bool.or_false]

/-- A bit of a byte, moved to a place of another, as the program reckons it. -/
theorem bit_here (x k : Nat) : x / 2 ^ k % 2 = if x.testBit k then 1 else 0 := by
  rw [Nat.testBit_eq_decide_div_mod_eq]
  by_cases h : x / 2 ^ k % 2 = 1
  · simp [h]
  · simp [h]; omega
theorem bit_there (x k r : Nat) : x / 2 ^ k % 2 * 2 ^ r = if x.testBit k then 2 ^ r else 0 := by
  rw [bit_here]
  split <;> simp
end Go.Proofs.YtdponcannphboabDoor
