/- What this text proves: plain facts on whole numbers and their bits, which no program enters. -/
import Derived.Laws.BitsLemmas
import Derived.Laws.Bits64
import Derived.Lib.Hide
import Derived.IntWalk
namespace Go.Proofs.Ytdfcamlnebcbpac
open Go Go.ChangeShapes Go.RowKit

theorem wraps_i64 (n : Int) (h₀ : 0 ≤ n) (h₁ : n < 2 ^ 63) : IntKind.i64.wrap n = n := by rw [IntKind.wrap_i64]; omega

theorem and_i64 (a b : Nat) (ha : a < 2 ^ 63) (hb : b < 2 ^ 63) : bits .and .i64 (a : Int) (b : Int) = ((a &&& b : Nat) : Int) :=
  (bits_nat .i64 63 (by decide) wraps_i64 a b ha hb).1
theorem or_i64 (a b : Nat) (ha : a < 2 ^ 63) (hb : b < 2 ^ 63) : bits .or .i64 (a : Int) (b : Int) = ((a ||| b : Nat) : Int) :=
  (bits_nat .i64 63 (by decide) wraps_i64 a b ha hb).2
theorem xor_i64 (a b : Nat) (ha : a < 2 ^ 63) (hb : b < 2 ^ 63) : bits .xor .i64 (a : Int) (b : Int) = ((a ^^^ b : Nat) : Int) := by
  have h64 : (2 : Nat) ^ 63 ≤ 2 ^ IntKind.i64.bits := Nat.pow_le_pow_right (by decide) (by decide)
  have ha' : a % 2 ^ IntKind.i64.bits = a := Nat.mod_eq_of_lt (Nat.lt_of_lt_of_le ha h64)
  have hb' : b % 2 ^ IntKind.i64.bits = b := Nat.mod_eq_of_lt (Nat.lt_of_lt_of_le hb h64)
  simp only [bits, BitVec.ofInt_natCast, BitVec.toNat_xor, BitVec.toNat_ofNat, ha', hb']
  exact wraps_i64 _ (Int.natCast_nonneg _) (by exact_mod_cast Nat.xor_lt_two_pow ha hb)
theorem mask16 (x : Int) (h₀ : 0 ≤ x) (h₁ : x < 2 ^ 63) : bits .and .i64 x 65535 = x % 65536 :=
  bits_mask .i64 63 (by decide) wraps_i64 16 (by decide) x h₀ h₁
theorem mask7 (x : Int) (h₀ : 0 ≤ x) (h₁ : x < 2 ^ 63) : bits .and .i64 x 127 = x % 128 :=
  bits_mask .i64 63 (by decide) wraps_i64 7 (by decide) x h₀ h₁
theorem mask1 (x : Int) (h₀ : 0 ≤ x) (h₁ : x < 2 ^ 63) : bits .and .i64 x 1 = x % 2 :=
  bits_mask .i64 63 (by decide) wraps_i64 1 (by decide) x h₀ h₁
theorem wraps_u64' (n : Int) (h₀ : 0 ≤ n) (h₁ : n < 2 ^ 64) : IntKind.u64.wrap n = n := by rw [IntKind.wrap_u64]; omega
theorem and_u64 (a b : Nat) (ha : a < 2 ^ 64) (hb : b < 2 ^ 64) : bits .and .u64 (a : Int) (b : Int) = ((a &&& b : Nat) : Int) :=
  (bits_nat .u64 64 (by decide) wraps_u64' a b ha hb).1

theorem wrap64_of (n : Int) (h : -9223372036854775808 ≤ n ∧ n ≤ 9223372036854775807) : wrap64 n = n := by unfold wrap64; omega
theorem or_byte (n b : Nat) (hn : n < 1099511627776) (hb : b < 256) : bits .or .i64 ((n : Int) * 256) (wrap64 (b : Int)) = ((256 * n + b : Nat) : Int) := by
  rw [wrap64_of _ (by omega)]
  rw [bits_join .i64 63 (by decide) wraps_i64 8 _ _ (by omega) (by omega) (by omega) (by omega) (by omega) (by omega)]
  omega

/-! ### The number of bits 1, by halves -/
/-- How many bits 1 (at most 'f' bits are looked at). -/
def ones : Nat → Nat → Nat
  | 0, _ => 0
  | f + 1, x => x % 2 + ones f (x / 2)
theorem ones_zero : ∀ f, ones f 0 = 0
  | 0 => rfl
  | f + 1 => by simp [ones, ones_zero f]
theorem ones_le : ∀ f x, ones f x ≤ f
  | 0, _ => Nat.le_refl _
  | f + 1, x => by have := ones_le f (x / 2); simp only [ones]; omega
theorem ones_more : ∀ (f x : Nat), x < 2 ^ f → ∀ g, f ≤ g → ones g x = ones f x
  | 0, x, h, g, _ => by obtain rfl : x = 0 := by simpa using h
                        exact ones_zero g
  | f + 1, x, h, g, hg => by
    obtain ⟨g, rfl⟩ : ∃ k, g = k + 1 := ⟨g - 1, by omega⟩
    have h2 : x / 2 < 2 ^ f := by rw [Nat.pow_succ] at h; omega
    simp only [ones, ones_more f (x / 2) h2 g (by omega)]
theorem ones_split : ∀ (k f x : Nat), ones (k + f) x = ones k (x % 2 ^ k) + ones f (x / 2 ^ k)
  | 0, f, x => by simp [ones]
  | k + 1, f, x => by
    rw [show k + 1 + f = (k + f) + 1 from by omega]
    simp only [ones]
    rw [ones_split k f (x / 2)]
    have e1 : x % 2 ^ (k + 1) % 2 = x % 2 := by rw [Nat.pow_succ']; exact Nat.mod_mul_right_mod x 2 (2 ^ k)
    have e2 : x % 2 ^ (k + 1) / 2 = x / 2 % 2 ^ k := by rw [Nat.pow_succ']; exact Nat.mod_mul_right_div_self x 2 (2 ^ k)
    have e3 : x / 2 / 2 ^ k = x / 2 ^ (k + 1) := by rw [Nat.div_div_eq_div_mul, Nat.pow_succ']
    rw [e1, e2, e3]
    omega

/-! ### The same by masks, a byte at a time -/
/-- The first three steps on the lowest byte. -/
def st1 (x : Nat) : Nat := (x / 2 &&& 0x55) + (x &&& 0x55)
def st2 (x : Nat) : Nat := (x / 4 &&& 0x33) + (x &&& 0x33)
def st3 (x : Nat) : Nat := (x / 16 + x) &&& 0x0f
theorem and_low (a q m M : Nat) (ha : a < 256) (hm : m < 256) : (a + 256 * q) &&& (m + 256 * M) = (a &&& m) + 256 * (q &&& M) := by
  have h1 : a + 256 * q = 2 ^ 8 * q + a := by omega
  have h2 : m + 256 * M = 2 ^ 8 * M + m := by omega
  have h3 : (a &&& m) < 2 ^ 8 := Nat.and_lt_two_pow _ (by simpa using hm)
  rw [h1, h2, show (a &&& m) + 256 * (q &&& M) = 2 ^ 8 * (q &&& M) + (a &&& m) from by omega]
  apply Nat.eq_of_testBit_eq
  intro i
  rw [Nat.testBit_and, Nat.testBit_two_pow_mul_add _ (by simpa using ha), Nat.testBit_two_pow_mul_add _ (by simpa using hm), Nat.testBit_two_pow_mul_add _ h3]
  split <;> simp

def step1 (x m : Nat) : Nat := (x / 2 &&& m) + (x &&& m)
def step2 (x m : Nat) : Nat := (x / 4 &&& m) + (x &&& m)
def step3 (x m : Nat) : Nat := (x / 16 + x) &&& m
theorem low1 : ∀ a : Fin 256, ∀ c : Fin 2, (a.val / 2 + 128 * c.val) &&& 0x55 = a.val / 2 &&& 0x55 := by decide +kernel
theorem low2 : ∀ a : Fin 256, ∀ c : Fin 4, (a.val / 4 + 64 * c.val) &&& 0x33 = a.val / 4 &&& 0x33 := by decide +kernel
theorem low3 : ∀ a : Fin 69, ∀ c : Fin 5, (a.val / 16 + 16 * c.val + a.val) &&& 0x0f = (a.val / 16 + a.val) &&& 0x0f := by decide +kernel
theorem st1_lt : ∀ a : Fin 256, st1 a.val < 256 := by decide +kernel
theorem st2_le : ∀ a : Fin 256, st2 a.val ≤ 102 := by decide +kernel
theorem st21 : ∀ a : Fin 256, st2 (st1 a.val) ≤ 68 ∧ st2 (st1 a.val) % 16 ≤ 4 := by decide +kernel
theorem st_ones : ∀ a : Fin 256, st3 (st2 (st1 a.val)) = ones 8 a.val := by decide +kernel
theorem step1_byte (a q M : Nat) (ha : a < 256) : step1 (a + 256 * q) (0x55 + 256 * M) = st1 a + 256 * step1 q M := by
  have e : (a + 256 * q) / 2 = (a / 2 + 128 * (q % 2)) + 256 * (q / 2) := by omega
  have l := low1 ⟨a, ha⟩ ⟨q % 2, Nat.mod_lt _ (by decide)⟩
  simp only at l
  unfold step1 st1
  rw [e, and_low _ _ _ _ (by omega) (by decide), and_low _ _ _ _ ha (by decide), l]
  omega
theorem step2_byte (a q M : Nat) (ha : a < 256) : step2 (a + 256 * q) (0x33 + 256 * M) = st2 a + 256 * step2 q M := by
  have e : (a + 256 * q) / 4 = (a / 4 + 64 * (q % 4)) + 256 * (q / 4) := by omega
  have l := low2 ⟨a, ha⟩ ⟨q % 4, Nat.mod_lt _ (by decide)⟩
  simp only at l
  unfold step2 st2
  rw [e, and_low _ _ _ _ (by omega) (by decide), and_low _ _ _ _ ha (by decide), l]
  omega
theorem step3_byte (a q M : Nat) (ha : a ≤ 68) (hq : q % 16 ≤ 4) : step3 (a + 256 * q) (0x0f + 256 * M) = st3 a + 256 * step3 q M := by
  have e : (a + 256 * q) / 16 + (a + 256 * q) = (a / 16 + 16 * (q % 16) + a) + 256 * (q / 16 + q) := by omega
  have l := low3 ⟨a, by omega⟩ ⟨q % 16, by omega⟩
  simp only at l
  unfold step3 st3
  rw [e, and_low _ _ _ _ (by omega) (by decide), l]
theorem pop32 (x : Nat) (h : x < 4294967296) :
    step3 (step2 (step1 x 0x5555555555555555) 0x3333333333333333) 0x0f0f0f0f0f0f0f0f
      = ones 8 (x % 256) + 256 * (ones 8 (x / 256 % 256) + 256 * (ones 8 (x / 65536 % 256) + 256 * ones 8 (x / 16777216))) := by
  have a0 := st1_lt ⟨x % 256, Nat.mod_lt _ (by decide)⟩
  have a1 := st1_lt ⟨x / 256 % 256, Nat.mod_lt _ (by decide)⟩
  have a2 := st1_lt ⟨x / 65536 % 256, Nat.mod_lt _ (by decide)⟩
  have a3 := st1_lt ⟨x / 16777216, by omega⟩
  have b0 := st21 ⟨x % 256, Nat.mod_lt _ (by decide)⟩
  have b1 := st21 ⟨x / 256 % 256, Nat.mod_lt _ (by decide)⟩
  have b2 := st21 ⟨x / 65536 % 256, Nat.mod_lt _ (by decide)⟩
  have b3 := st21 ⟨x / 16777216, by omega⟩
  have c0 := st_ones ⟨x % 256, Nat.mod_lt _ (by decide)⟩
  have c1 := st_ones ⟨x / 256 % 256, Nat.mod_lt _ (by decide)⟩
  have c2 := st_ones ⟨x / 65536 % 256, Nat.mod_lt _ (by decide)⟩
  have c3 := st_ones ⟨x / 16777216, by omega⟩
  simp only at a0 a1 a2 a3 b0 b1 b2 b3 c0 c1 c2 c3
  have hx : x = x % 256 + 256 * (x / 256 % 256 + 256 * (x / 65536 % 256 + 256 * (x / 16777216 + 256 * 0))) := by omega
  have z1 : ∀ m, step1 0 m = 0 := fun m => by simp [step1]
  have z2 : ∀ m, step2 0 m = 0 := fun m => by simp [step2]
  have z3 : ∀ m, step3 0 m = 0 := fun m => by simp [step3]
  have s1 : step1 x 0x5555555555555555 = st1 (x % 256) + 256 * (st1 (x / 256 % 256) + 256 * (st1 (x / 65536 % 256) + 256 * (st1 (x / 16777216) + 256 * 0))) := by
    conv => lhs; rw [hx]
    rw [show (0x5555555555555555 : Nat) = 0x55 + 256 * (0x55 + 256 * (0x55 + 256 * (0x55 + 256 * 0x55555555))) from by decide,
      step1_byte _ _ _ (by omega), step1_byte _ _ _ (by omega), step1_byte _ _ _ (by omega), step1_byte _ _ _ (by omega), z1]
  rw [s1, show (0x3333333333333333 : Nat) = 0x33 + 256 * (0x33 + 256 * (0x33 + 256 * (0x33 + 256 * 0x33333333))) from by decide,
    step2_byte _ _ _ a0, step2_byte _ _ _ a1, step2_byte _ _ _ a2, step2_byte _ _ _ a3, z2]
  rw [show (0x0f0f0f0f0f0f0f0f : Nat) = 0x0f + 256 * (0x0f + 256 * (0x0f + 256 * (0x0f + 256 * 0x0f0f0f0f))) from by decide,
    step3_byte _ _ _ b0.1 (by omega), step3_byte _ _ _ b1.1 (by omega), step3_byte _ _ _ b2.1 (by omega), step3_byte _ _ _ b3.1 (by omega), z3, c0, c1, c2, c3]
  omega
theorem and_u64' (a b : Nat) (ha : a < 2 ^ 64) (hb : b < 2 ^ 64) (x y : Int) (hx : x = a) (hy : y = b) : bits .and .u64 x y = ((a &&& b : Nat) : Int) := by
  rw [hx, hy]; exact and_u64 a b ha hb
theorem wrap_u64_of (a : Nat) (ha : a < 18446744073709551616) : IntKind.u64.wrap (a : Int) = (a : Int) := by rw [IntKind.wrap_u64]; omega
theorem walk1 (x : Nat) (h : x < 18446744073709551616) : IntKind.u64.wrap (bits .and .u64 ((x : Int) / 2) 6148914691236517205 + bits .and .u64 (x : Int) 6148914691236517205) = ((step1 x 0x5555555555555555 : Nat) : Int) := by
  rw [and_u64' (x / 2) 0x5555555555555555 (by omega) (by decide) _ _ (by omega) (by decide), and_u64' x 0x5555555555555555 (by omega) (by decide) _ _ rfl (by decide)]
  have l1 := Nat.and_le_right (n := x / 2) (m := 0x5555555555555555)
  have l2 := Nat.and_le_right (n := x) (m := 0x5555555555555555)
  rw [← Int.natCast_add, wrap_u64_of _ (by omega)]
  rfl
theorem walk2 (x : Nat) (h : x < 18446744073709551616) : IntKind.u64.wrap (bits .and .u64 ((x : Int) / 4) 3689348814741910323 + bits .and .u64 (x : Int) 3689348814741910323) = ((step2 x 0x3333333333333333 : Nat) : Int) := by
  rw [and_u64' (x / 4) 0x3333333333333333 (by omega) (by decide) _ _ (by omega) (by decide), and_u64' x 0x3333333333333333 (by omega) (by decide) _ _ rfl (by decide)]
  have l1 := Nat.and_le_right (n := x / 4) (m := 0x3333333333333333)
  have l2 := Nat.and_le_right (n := x) (m := 0x3333333333333333)
  rw [← Int.natCast_add, wrap_u64_of _ (by omega)]
  rfl
theorem walk3 (x : Nat) (h : x < 8000000000000000000) : bits .and .u64 (IntKind.u64.wrap ((x : Int) / 16 + (x : Int))) 1085102592571150095 = ((step3 x 0x0f0f0f0f0f0f0f0f : Nat) : Int) := by
  have e : (x : Int) / 16 + (x : Int) = ((x / 16 + x : Nat) : Int) := by omega
  rw [e, wrap_u64_of _ (by omega), and_u64' _ 0x0f0f0f0f0f0f0f0f (by omega) (by decide) _ _ rfl (by decide)]
  rfl
theorem step1_le (x m : Nat) : step1 x m ≤ 2 * m := by
  have l1 := Nat.and_le_right (n := x / 2) (m := m)
  have l2 := Nat.and_le_right (n := x) (m := m)
  unfold step1; omega
theorem step2_le (x m : Nat) : step2 x m ≤ 2 * m := by
  have l1 := Nat.and_le_right (n := x / 4) (m := m)
  have l2 := Nat.and_le_right (n := x) (m := m)
  unfold step2; omega
theorem ones32_bytes (x : Nat) :
    ones 32 x = ones 8 (x % 256) + ones 8 (x / 256 % 256) + ones 8 (x / 65536 % 256) + ones 8 (x / 16777216) := by
  rw [show 32 = 8 + 24 from rfl, ones_split 8 24, show 24 = 8 + 16 from rfl, ones_split 8 16, show 16 = 8 + 8 from rfl, ones_split 8 8]
  rw [show (2 : Nat) ^ 8 = 256 from by decide, Nat.div_div_eq_div_mul, Nat.div_div_eq_div_mul]
  simp only [Nat.reduceMul]
  omega
/-- The last three steps. -/
theorem fold_bytes (p0 p1 p2 p3 p : Nat) (h0 : p0 ≤ 8) (h1 : p1 ≤ 8) (h2 : p2 ≤ 8) (h3 : p3 ≤ 8) (hp : p = p0 + 256 * (p1 + 256 * (p2 + 256 * p3))) :
    ∃ q r s : Nat, IntKind.u64.wrap ((p : Int) + (p : Int) / 256) = (q : Int) ∧ IntKind.u64.wrap ((q : Int) + (q : Int) / 65536) = (r : Int) ∧ IntKind.u64.wrap ((r : Int) + (r : Int) / 4294967296) = (s : Int) ∧
      s < 9223372036854775808 ∧ s % 128 = p0 + p1 + p2 + p3 := by
  refine ⟨p + p / 256, (p + p / 256) + (p + p / 256) / 65536, ((p + p / 256) + (p + p / 256) / 65536) + ((p + p / 256) + (p + p / 256) / 65536) / 4294967296, ?_, ?_, ?_, ?_, ?_⟩
  · rw [show (p : Int) + (p : Int) / 256 = ((p + p / 256 : Nat) : Int) from by omega, wrap_u64_of _ (by omega)]
  · generalize hq : p + p / 256 = q
    rw [show (q : Int) + (q : Int) / 65536 = ((q + q / 65536 : Nat) : Int) from by omega, wrap_u64_of _ (by omega)]
  · generalize hq : (p + p / 256) + (p + p / 256) / 65536 = q
    rw [show (q : Int) + (q : Int) / 4294967296 = ((q + q / 4294967296 : Nat) : Int) from by omega, wrap_u64_of _ (by omega)]
  · omega
  · have e1 : p / 256 = p1 + 256 * (p2 + 256 * p3) := by omega
    have e2 : (p + p / 256) / 65536 = p2 + p3 + 256 * p3 := by omega
    have e3 : ((p + p / 256) + (p + p / 256) / 65536) / 4294967296 = 0 := by omega
    rw [e3, e2]
    omega
end Go.Proofs.Ytdfcamlnebcbpac
