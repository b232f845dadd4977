/- What this text proves: facts about the code words: each is found again with any bit changed, and with two bits changed it is noticed. -/
import Derived.Test.YtdponcannphboabDoorMath
namespace Go.Proofs.YtdponcannphboabDoor
open Go
set_option linter.unusedVariables false

/-- The code word of a number from 0 to 15. -/
def encN (n : Nat) : Nat :=
  let w := (n % 2 + n / 2 % 2 + n / 8 % 2) % 2 + (n % 2 + n / 4 % 2 + n / 8 % 2) % 2 * 2 + n % 2 * 4 + (n / 2 % 2 + n / 4 % 2 + n / 8 % 2) % 2 * 8 + n / 2 % 2 * 16 + n / 4 % 2 * 32 + n / 8 % 2 * 64
  w + ones 8 w % 2 * 128
theorem encN_lt (n : Nat) (h : n < 16) : encN n < 256 := by
  have : ∀ k : Fin 16, encN k.val < 256 := by decide +kernel
  exact this ⟨n, h⟩
def wordV (n : Int) : Int := if 0 ≤ n ∧ n ≤ 15 then (encN n.toNat : Int) else -1
theorem wordV_in (n : Nat) (h : n < 16) : wordV (n : Int) = (encN n : Int) := by unfold wordV; rw [if_pos (by omega)]; simp
theorem wordV_out {n : Int} (h : ¬ (0 ≤ n ∧ n ≤ 15)) : wordV n = -1 := by unfold wordV; rw [if_neg h]

/-- How many bits differ from a code word. -/
def ham (w n : Nat) : Nat := ones 8 (w ^^^ encN n)
theorem ham_32 (w n : Nat) (hw : w < 256) (hn : n < 16) : ones 32 (w ^^^ encN n) = ham w n := ones_more 8 _ (Nat.xor_lt_two_pow (n := 8) hw (encN_lt n hn)) 32 (by decide)
/-- The search from the number n on, f numbers. -/
def decG (w : Nat) (n f : Nat) : Int × Int := Nat.rec (motive := fun _ => Nat → Int × Int) (fun _ => (-1, 2)) (fun _ r n => if ham w n < 2 then ((n : Int), (ham w n : Int)) else r (n + 1)) f n
theorem decG_zero (w n : Nat) : decG w n 0 = (-1, 2) := rfl
theorem decG_succ (w n f : Nat) : decG w n (f + 1) = if ham w n < 2 then ((n : Int), (ham w n : Int)) else decG w (n + 1) f := rfl
def decN (w : Nat) : Int × Int := decG w 0 16
def unwV (w : Int) : Int × Int := if 0 ≤ w ∧ w ≤ 255 then decN w.toNat else (-1, 2)
theorem unwV_in (w : Nat) (h : w < 256) : unwV (w : Int) = decN w := by unfold unwV; rw [if_pos (by omega)]; simp
theorem unwV_out {w : Int} (h : ¬ (0 ≤ w ∧ w ≤ 255)) : unwV w = (-1, 2) := by unfold unwV; rw [if_neg h]
theorem decG_yes (w n f : Nat) (h : ham w n < 2) : decG w n (f + 1) = ((n : Int), (ham w n : Int)) := by rw [decG_succ, if_pos h]
theorem decG_no (w n f : Nat) (h : ¬ ham w n < 2) : decG w n (f + 1) = decG w (n + 1) f := by rw [decG_succ, if_neg h]
theorem decG_shape (w f : Nat) : ∀ n, n + f = 16 → (∃ m k : Nat, m < 16 ∧ k < 2 ∧ decG w n f = ((m : Int), (k : Int))) ∨ decG w n f = (-1, 2) := by
  induction f with
  | zero => intro n _; exact .inr (decG_zero w n)
  | succ f ih =>
    intro n hn
    by_cases h : ham w n < 2
    · exact .inl ⟨n, ham w n, by omega, h, decG_yes w n f h⟩
    · rw [decG_no w n f h]
      exact ih (n + 1) (by omega)
theorem decN_shape (w : Nat) : (∃ n k : Nat, n < 16 ∧ k < 2 ∧ decN w = ((n : Int), (k : Int))) ∨ decN w = (-1, 2) := by
  unfold decN
  exact decG_shape w 16 0 rfl

theorem word_same (n : Nat) (h : n < 16) : decN (encN n) = ((n : Int), 0) := by
  have : ∀ k : Fin 16, decN (encN k.val) = ((k.val : Int), 0) := by decide +kernel
  exact this ⟨n, h⟩
theorem word_one (n i : Nat) (h : n < 16) (hi : i < 8) : decN (encN n ^^^ 2 ^ i) = ((n : Int), 1) := by
  have : ∀ k : Fin 16, ∀ j : Fin 8, decN (encN k.val ^^^ 2 ^ j.val) = ((k.val : Int), 1) := by decide +kernel
  exact this ⟨n, h⟩ ⟨i, hi⟩
theorem word_two (n i k : Nat) (h : n < 16) (hi : i < 8) (hk : k < 8) (hne : i ≠ k) : decN (encN n ^^^ 2 ^ i ^^^ 2 ^ k) = (-1, 2) := by
  have : ∀ a : Fin 16, ∀ b : Fin 8, ∀ c : Fin 8, b.val ≠ c.val → decN (encN a.val ^^^ 2 ^ b.val ^^^ 2 ^ c.val) = (-1, 2) := by decide +kernel
  exact this ⟨n, h⟩ ⟨i, hi⟩ ⟨k, hk⟩ hne
theorem word_even (n : Nat) (h : n < 16) : ones 32 (encN n) % 2 = 0 := by
  have : ∀ k : Fin 16, ones 32 (encN k.val) % 2 = 0 := by decide +kernel
  exact this ⟨n, h⟩
end Go.Proofs.YtdponcannphboabDoor
