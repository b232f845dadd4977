/- What this text proves: plain facts on bytes and their bits, which no program enters. -/
import Derived.Test.YtdponcannphboabDoorMath
import Derived.Test.YtdponcannphboabDoorLnkS
namespace Go.Proofs.YtdponcannphboabDoor
open Go Go.ChangeShapes Go.RowKit
set_option linter.unusedVariables false

theorem wrapb (n : Int) (h₀ : 0 ≤ n) (h₁ : n < 2 ^ 8) : IntKind.u8.wrap n = n := by rw [IntKind.wrap_u8]; omega
theorem and_b (a b : Nat) (ha : a < 256) (hb : b < 256) : bits .and .u8 (a : Int) (b : Int) = ((a &&& b : Nat) : Int) :=
  (bits_nat .u8 8 (by decide) wrapb a b ha hb).1
theorem or_b (a b : Nat) (ha : a < 256) (hb : b < 256) : bits .or .u8 (a : Int) (b : Int) = ((a ||| b : Nat) : Int) :=
  (bits_nat .u8 8 (by decide) wrapb a b ha hb).2
theorem xor_b (a b : Nat) (ha : a < 256) (hb : b < 256) : bits .xor .u8 (a : Int) (b : Int) = ((a ^^^ b : Nat) : Int) := by
  have ha' : a % 2 ^ 8 = a := Nat.mod_eq_of_lt ha
  have hb' : b % 2 ^ 8 = b := Nat.mod_eq_of_lt hb
  have h8 : a ^^^ b < 2 ^ 8 := Nat.xor_lt_two_pow ha hb
  simp only [bits, BitVec.ofInt_natCast, BitVec.toNat_xor, BitVec.toNat_ofNat]
  show IntKind.u8.wrap ((a % 2 ^ 8 ^^^ b % 2 ^ 8 : Nat) : Int) = _
  rw [ha', hb']
  exact wrapb _ (Int.natCast_nonneg _) (by exact_mod_cast h8)
theorem ofNat_nat (x : Nat) (h : x < 256) : (UInt8.ofNat x).toNat = x := by rw [UInt8.toNat_ofNat']; omega

def scrL (s : ByteArray) (k : Nat) : List UInt8 := (List.range k).map fun j => UInt8.ofNat (byteAt s j ^^^ seqX j)
theorem scrL_step (s : ByteArray) (k : Nat) : scrL s (k + 1) = scrL s k ++ [UInt8.ofNat (byteAt s k ^^^ seqX k)] := by
  unfold scrL
  rw [List.range_succ, List.map_append]
  rfl
theorem scrL_len (s : ByteArray) (k : Nat) : (scrL s k).length = k := by simp [scrL]
theorem scrL_all (s : ByteArray) : (⟨(scrL s s.size).toArray⟩ : ByteArray) = scrT s := rfl
theorem next_walk (X : Nat) (h : X < 256) : bits .or .i64 (bits .and .i64 ((X : Int) * 2) 255) (bits .and .i64 (bits .xor .i64 (bits .xor .i64 (bits .xor .i64 ((X : Int) / 128) ((X : Int) / 16)) ((X : Int) / 4)) (X : Int)) 1) = ((nextX X : Nat) : Int) := by
  have : ∀ k : Fin 256, bits .or .i64 (bits .and .i64 ((k.val : Int) * 2) 255) (bits .and .i64 (bits .xor .i64 (bits .xor .i64 (bits .xor .i64 ((k.val : Int) / 128) ((k.val : Int) / 16)) ((k.val : Int) / 4)) (k.val : Int)) 1) = ((nextX k.val : Nat) : Int) := by decide +kernel
  exact this ⟨X, h⟩
end Go.Proofs.YtdponcannphboabDoor
