/- What this text proves: a plain fact on bits: bits that are spread are as many as before. -/
import Derived.Test.YtdponcannphboaaDoorLnkB
import Derived.Test.YtdponcannphboaaDoorMath
namespace Go.Proofs.YtdponcannphboaaDoor
set_option linter.unusedVariables false

def cnt (f : Nat → Nat) : Nat → Nat
  | 0 => 0
  | n + 1 => cnt f n + f n
theorem cnt_congr (f g : Nat → Nat) (n : Nat) (h : ∀ i, i < n → f i = g i) : cnt f n = cnt g n := by
  induction n with
  | zero => rfl
  | succ n ih =>
    simp only [cnt]
    rw [ih (fun i hi => h i (by omega)), h n (by omega)]
theorem cnt_le (f : Nat → Nat) (c n : Nat) (h : ∀ i, i < n → f i ≤ c) : cnt f n ≤ c * n := by
  induction n with
  | zero => simp [cnt]
  | succ n ih =>
    simp only [cnt]
    have := ih (fun i hi => h i (by omega))
    have := h n (by omega)
    rw [Nat.mul_succ]
    omega
theorem cnt_add (f : Nat → Nat) (a b : Nat) : cnt f (a + b) = cnt f a + cnt (fun j => f (a + j)) b := by
  induction b with
  | zero => rfl
  | succ b ih =>
    show cnt f (a + b) + f (a + b) = _
    rw [ih]
    simp only [cnt]
    omega
theorem cnt_mul (f : Nat → Nat) (a b : Nat) : cnt f (a * b) = cnt (fun i => cnt (fun j => f (i * b + j)) b) a := by
  induction a with
  | zero => simp [cnt]
  | succ a ih =>
    rw [Nat.succ_mul, cnt_add, ih]
    rfl
theorem cnt_plus (f g : Nat → Nat) (n : Nat) : cnt (fun i => f i + g i) n = cnt f n + cnt g n := by
  induction n with
  | zero => rfl
  | succ n ih =>
    simp only [cnt]
    omega
theorem cnt_swap (f : Nat → Nat → Nat) (a b : Nat) : cnt (fun i => cnt (fun j => f i j) b) a = cnt (fun j => cnt (fun i => f i j) a) b := by
  induction a with
  | zero =>
    have : ∀ b, cnt (fun _ => 0) b = 0 := fun b => by
      induction b with
      | zero => rfl
      | succ b ih => simp only [cnt]; omega
    simp only [cnt]
    exact (this b).symm
  | succ a ih =>
    simp only [cnt]
    rw [ih, cnt_plus]
def b2n (b : Bool) : Nat := if b then 1 else 0
theorem ones_bits (x : Nat) (h : x < 256) : ones 32 x = cnt (fun i => b2n (x.testBit i)) 8 := by
  rw [ones_more 8 x (by omega) 32 (by decide)]
  have : ∀ k : Fin 256, ones 8 k.val = cnt (fun i => b2n (k.val.testBit i)) 8 := by decide +kernel
  exact this ⟨x, h⟩
/-- How many bits 1 the first k bytes have. -/
def onesT (s : ByteArray) (k : Nat) : Nat := cnt (fun j => ones 32 (byteAt s j)) k
theorem onesT_succ (s : ByteArray) (k : Nat) : onesT s (k + 1) = onesT s k + ones 32 (byteAt s k) := rfl
theorem onesT_le (s : ByteArray) (k : Nat) : onesT s k ≤ 32 * k := cnt_le _ 32 k fun i _ => ones_le 32 _
theorem onesT_place (s : ByteArray) (n : Nat) : onesT s n = cnt (fun p => b2n (placeB s p)) (n * 8) := by
  rw [cnt_mul]
  refine cnt_congr _ _ n fun j _ => ?_
  rw [ones_bits _ (byteAt_lt s j)]
  refine cnt_congr _ _ 8 fun i hi => ?_
  unfold placeB
  rw [show (j * 8 + i) / 8 = j by omega, show (j * 8 + i) % 8 = i by omega]
theorem onesT_spread (s : ByteArray) : onesT (spreadT s) s.size = onesT s s.size := by
  rw [onesT_place, cnt_congr _ (fun p => b2n (sprB s p)) _ (fun p hp => by rw [place_spread s p (by omega)]), Nat.mul_comm, cnt_mul]
  rw [cnt_congr _ (fun k => cnt (fun m => b2n ((byteAt s m).testBit k)) s.size) 8 (fun k hk => cnt_congr _ _ _ fun m hm => by rw [spr_at s k m hm])]
  rw [cnt_swap]
  refine cnt_congr _ _ s.size fun m _ => ?_
  rw [ones_bits _ (byteAt_lt s m)]
end Go.Proofs.YtdponcannphboaaDoor
