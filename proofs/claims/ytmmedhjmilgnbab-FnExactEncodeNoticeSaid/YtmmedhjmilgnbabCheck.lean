/- What this text proves: the contract of CheckOf: program and model both return, for every text, the number of 16 bits that the document's steps give. -/
import Derived.Test.YtmmedhjmilgnbabRand
import Derived.LoopTactic
import Derived.IntWalk
import Derived.Laws.RangeString
import Derived.Laws.RangeAny
import Derived.Laws.Runes
import Derived.Laws.Strings2
import Derived.Laws.Strings3
namespace Go.Proofs.Ytmmedhjmilgnbab
open Go.ChangeShapes Go.WideShapes Go.ChangeAt Go.RowKit
set_option linter.unusedVariables false

/-- One of the eight steps. -/
def cstep (n : Nat) : Nat := if n &&& 32768 = 0 then 2 * n else (2 * n % 65536) ^^^ 4129
def csteps : Nat → Nat → Nat
  | 0, n => n
  | k + 1, n => cstep (csteps k n)
def cfeed (n b : Nat) : Nat := csteps 8 (n ^^^ (b * 256))
def crcL (n : Nat) (l : List UInt8) : Nat := l.foldl (fun n b => cfeed n b.toNat) n
theorem crcL_append (n : Nat) (l m : List UInt8) : crcL n (l ++ m) = crcL (crcL n l) m := by simp [crcL]
theorem crcL_snoc (n : Nat) (l : List UInt8) (b : UInt8) : crcL n (l ++ [b]) = cfeed (crcL n l) b.toNat := by simp [crcL]
theorem top_bit (n : Nat) (h : n < 65536) (h0 : n &&& 32768 = 0) : n < 32768 := by
  have h1 : n = 32768 * (n / 32768) + n % 32768 := by omega
  rcases Nat.lt_or_ge n 32768 with h2 | h2
  · exact h2
  · have e : n / 32768 = 1 := by omega
    have e2 : (2 ^ 15 * 1 + n % 32768) &&& 32768 = 32768 := by
      apply Nat.eq_of_testBit_eq
      intro i
      rw [Nat.testBit_and, Nat.testBit_two_pow_mul_add 1 (show n % 32768 < 2 ^ 15 by omega), show (32768 : Nat) = 2 ^ 15 from rfl, Nat.testBit_two_pow]
      by_cases hi : 15 = i
      · subst hi; simp
      · simp [hi]
    rw [e] at h1
    rw [h1, show 32768 * 1 + n % 32768 = 2 ^ 15 * 1 + n % 32768 from by omega] at h0
    omega
theorem top_bit2 (n : Nat) (h : n < 65536) (h0 : ¬ n &&& 32768 = 0) : n &&& 32768 = 32768 := by
  have h1 : n = 2 ^ 15 * (n / 32768) + n % 32768 := by omega
  rcases Nat.lt_or_ge n 32768 with h2 | h2
  · exfalso
    apply h0
    apply Nat.eq_of_testBit_eq
    intro i
    rw [Nat.testBit_and, show (32768 : Nat) = 2 ^ 15 from rfl, Nat.testBit_two_pow]
    by_cases hi : 15 = i
    · subst hi; simp [Nat.testBit_lt_two_pow (show n < 2 ^ 15 by omega)]
    · simp [hi]
  · have e : n / 32768 = 1 := by omega
    rw [e] at h1
    rw [h1]
    apply Nat.eq_of_testBit_eq
    intro i
    rw [Nat.testBit_and, Nat.testBit_two_pow_mul_add 1 (show n % 32768 < 2 ^ 15 by omega), show (32768 : Nat) = 2 ^ 15 from rfl, Nat.testBit_two_pow]
    by_cases hi : 15 = i
    · subst hi; simp
    · simp [hi]
theorem cstep_lt (n : Nat) (h : n < 65536) : cstep n < 65536 := by
  unfold cstep
  split
  · rename_i h0
    have := top_bit n h h0
    omega
  · exact Nat.xor_lt_two_pow (n := 16) (by omega) (by decide)
theorem csteps_lt (k n : Nat) (h : n < 65536) : csteps k n < 65536 := by
  induction k with
  | zero => exact h
  | succ k ih => exact cstep_lt _ ih
theorem cxor_lt (n b : Nat) (h : n < 65536) (hb : b < 256) : n ^^^ (b * 256) < 65536 := Nat.xor_lt_two_pow (n := 16) h (by omega)
theorem cfeed_lt (n b : Nat) (h : n < 65536) (hb : b < 256) : cfeed n b < 65536 := csteps_lt _ _ (cxor_lt n b h hb)
theorem crcL_lt (l : List UInt8) : ∀ n, n < 65536 → crcL n l < 65536 := by
  induction l with
  | nil => intro n h; exact h
  | cons b l ih => intro n h; exact ih _ (cfeed_lt n b.toNat h (UInt8.toNat_lt b))
theorem take_snoc (s : ByteArray) (k : Nat) (h : k < s.size) : s.data.toList.take (k + 1) = s.data.toList.take k ++ [s[k]] := by
  rw [List.take_succ_eq_append_getElem (by simpa using h)]; rfl
theorem crc_take (c : Nat) (s : ByteArray) (k : Nat) (h : k < s.size) : crcL c (s.data.toList.take (k + 1)) = cfeed (crcL c (s.data.toList.take k)) s[k].toNat := by
  rw [take_snoc s k h, crcL_snoc]

/-- The number of 16 bits of a text. -/
def crc (s : ByteArray) : Nat := crcL 65535 s.data.toList
theorem xor_walk (n b : Nat) (h : n < 65536) (hb : b < 256) : bits .xor .i64 (n : Int) ((b : Int) * 256) = ((n ^^^ (b * 256) : Nat) : Int) := by
  rw [show (b : Int) * 256 = ((b * 256 : Nat) : Int) from by omega]
  exact xor_i64 n (b * 256) (by omega) (by omega)
theorem step_yes (n : Nat) (h : n < 65536) (h0 : ¬ n &&& 32768 = 0) : bits .xor .i64 (bits .and .i64 ((n : Int) * 2) 65535) 4129 = ((cstep n : Nat) : Int) := by
  rw [mask16 _ (by omega) (by omega), show (n : Int) * 2 % 65536 = ((2 * n % 65536 : Nat) : Int) from by omega]
  unfold cstep
  rw [if_neg h0]
  exact xor_i64 _ 4129 (by omega) (by decide)
theorem bit_walk (n : Nat) (h : n < 65536) : bits .and .i64 (n : Int) 32768 = ((n &&& 32768 : Nat) : Int) := and_i64 n 32768 (by omega) (by decide)

theorem width_pos (s : ByteArray) (pos : Nat) (h : pos < s.size) : 1 ≤ (Utf8.decode s pos).2 := by
  by_cases ha : (s[pos]'h).toNat < 128
  · rw [decode_ascii s pos h ha]
    exact Nat.le_refl _
  · exact (decode_high s pos h (by omega)).2

theorem crc_lt (s : ByteArray) : crc s < 65536 := crcL_lt _ _ (by decide)
theorem crc_cut (s : ByteArray) (a b : Nat) (hab : a ≤ b) (hb : b ≤ s.size) :
    crcL (crcL 65535 (s.data.toList.take a)) ((s.data.toList.drop a).take (b - a)) = crcL 65535 (s.data.toList.take b) := by
  rw [← crcL_append]
  congr 1
  conv => rhs; rw [← List.take_append_drop a (s.data.toList.take b)]
  rw [List.take_take, Nat.min_eq_left hab, List.drop_take]

theorem below_iter (w : World) (s : ByteArray) (pos : Nat) : Below w.heap.size w (w.iter s pos) := (Below.refl _ _).alloc (Nat.le_refl _) _

end Go.Proofs.Ytmmedhjmilgnbab
