/- What this text proves: plain facts about code words with one or two bits changed. -/
import Derived.Test.YtdponcannphboaaDoorLnkW
import Derived.Test.YtdponcannphboaaDoorMath
import Derived.WalkKit
import Derived.IntWalk
namespace Go.Proofs.YtdponcannphboaaDoor
open Go Go.RowKit

theorem shift_one (i : Nat) (h : i < 8) : ∃ P : Nat, P = 2 ^ i ∧ P ≤ 128 ∧ wrap64 ((2 : Int) ^ i) = (P : Int) := by
  have h2 : (2 : Nat) ^ i ≤ 128 := Nat.le_trans (Nat.pow_le_pow_right (by decide) (show i ≤ 7 by omega)) (by decide)
  refine ⟨2 ^ i, rfl, h2, ?_⟩
  rw [show ((2 : Int) ^ i) = ((2 ^ i : Nat) : Int) by push_cast; rfl]
  generalize 2 ^ i = c at *
  unfold wrap64
  omega

theorem cw_one (N I : Nat) (hN : N < 16) (hI : I < 8) (P : Nat) (hP : P = 2 ^ I) (h8 : P ≤ 128) (E : Nat) (hE : E = encN N) :
    E < 256 ∧ bits .xor .i64 (E : Int) (P : Int) = ((E ^^^ P : Nat) : Int) ∧ E ^^^ P < 256 ∧ unwV ((E ^^^ P : Nat) : Int) = ((N : Int), 1) ∧ unwV (E : Int) = ((N : Int), 0) := by
  have he : E < 256 := by rw [hE]; exact encN_lt N hN
  have l1 : E ^^^ P < 256 := Nat.xor_lt_two_pow (n := 8) he (by omega)
  refine ⟨he, xor_i64 E P (by omega) (by omega), l1, ?_, ?_⟩
  · rw [unwV_in _ l1, hE, hP]
    exact word_one N I hN hI
  · rw [unwV_in _ he, hE]
    exact word_same N hN
theorem cw_two (N I K : Nat) (hN : N < 16) (hI : I < 8) (hK : K < 8) (P R : Nat) (hP : P = 2 ^ I) (hR : R = 2 ^ K) (h8 : P ≤ 128) (r8 : R ≤ 128) (E : Nat) (hE : E = encN N) :
    bits .xor .i64 ((E ^^^ P : Nat) : Int) (R : Int) = ((E ^^^ P ^^^ R : Nat) : Int) ∧ E ^^^ P ^^^ R < 256 ∧ unwV ((E ^^^ P ^^^ R : Nat) : Int) = if I = K then ((N : Int), 0) else (-1, 2) := by
  have he : E < 256 := by rw [hE]; exact encN_lt N hN
  have l1 : E ^^^ P < 256 := Nat.xor_lt_two_pow (n := 8) he (by omega)
  have l2 : E ^^^ P ^^^ R < 256 := Nat.xor_lt_two_pow (n := 8) l1 (by omega)
  refine ⟨xor_i64 _ R (by omega) (by omega), l2, ?_⟩
  rw [unwV_in _ l2, hE, hP, hR]
  by_cases h : I = K
  · rw [if_pos h, h, Nat.xor_assoc, Nat.xor_self, Nat.xor_zero]
    exact word_same N hN
  · rw [if_neg h]
    exact word_two N I K hN hI hK h
end Go.Proofs.YtdponcannphboaaDoor
