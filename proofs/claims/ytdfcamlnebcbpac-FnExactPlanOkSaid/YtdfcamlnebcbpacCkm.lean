/- What this text proves: what a clock with a drift shows, as numbers: it never goes backward, and goes on with its time up to its drift. -/
import Derived.Test.YtdfcamlnebcbpacLaw
namespace Go.Proofs.Ytdfcamlnebcbpac
set_option linter.unusedVariables false

/-- A quotient rounded down, as Go's code computes it. -/
def flI (a b : Int) : Int := if Int.tmod a b < 0 then Int.tdiv a b - 1 else Int.tdiv a b
theorem flI_eq (a b : Int) (h : 0 < b) : flI a b = a / b := by
  unfold flI
  have h1 := Int.tmod_add_mul_tdiv a b
  have hb := Int.tmod_lt_of_pos a h
  have hb2 : -b < Int.tmod a b := by
    have := Int.lt_tmod_of_pos a h
    omega
  split
  · rename_i hn
    have : a = (a.tmod b + b) + (a.tdiv b - 1) * b := by
      rw [Int.sub_mul, Int.mul_comm (a.tdiv b) b]; omega
    rw [this]
    rw [Int.add_mul_ediv_right _ _ (by omega), Int.ediv_eq_zero_of_lt (by omega) (by omega)]
    rw [← this]
    omega
  · have : a = (a.tmod b) + (a.tdiv b) * b := by
      rw [Int.mul_comm (a.tdiv b) b]; omega
    rw [this]
    rw [Int.add_mul_ediv_right _ _ (by omega), Int.ediv_eq_zero_of_lt (by omega) (by omega)]
    rw [← this]
    omega
def DrOk (r o : Int) : Prop := (-100 ≤ r ∧ r ≤ 100) ∧ (0 ≤ o ∧ o ≤ 1000)
instance (r o : Int) : Decidable (DrOk r o) := by unfold DrOk; infer_instance
/-- What the clock shows. -/
def btI (r o t : Int) : Int := if DrOk r o ∧ (0 ≤ t ∧ t ≤ 1000000) then t + o + (t * r) / 1000 else -1
def tdI (r o t : Int) : Int := if DrOk r o ∧ (0 ≤ t ∧ t ≤ 999999) then btI r o (t + 1) - btI r o t else 0
theorem mul_bounds {r t : Int} (h1 : -100 ≤ r ∧ r ≤ 100) (h2 : 0 ≤ t ∧ t ≤ 1000000) : -100000000 ≤ t * r ∧ t * r ≤ 100000000 ∧ -(100 * t) ≤ t * r ∧ t * r ≤ 100 * t := by
  have a := Int.mul_le_mul_of_nonneg_left h1.1 h2.1
  have b := Int.mul_le_mul_of_nonneg_left h1.2 h2.1
  omega
theorem btI_yes {r o t : Int} (h : DrOk r o ∧ (0 ≤ t ∧ t ≤ 1000000)) : btI r o t = t + o + (t * r) / 1000 ∧ 0 ≤ btI r o t ∧ btI r o t ≤ 2000000 := by
  unfold btI
  rw [if_pos h]
  have := mul_bounds h.1.1 h.2
  obtain ⟨⟨_, h2⟩, h3⟩ := h
  omega
theorem btI_no {r o t : Int} (h : ¬ (DrOk r o ∧ (0 ≤ t ∧ t ≤ 1000000))) : btI r o t = -1 := by unfold btI; rw [if_neg h]
/-- From one time to a later one the clock goes on by the time, and the drift of this time, up to one. -/
theorem bt_diff {r o s t : Int} (hd : DrOk r o) (hs : 0 ≤ s ∧ s ≤ 1000000) (ht : 0 ≤ t ∧ t ≤ 1000000) :
    ∃ e, btI r o t - btI r o s = (t - s) + e ∧ r * (t - s) - 1000 < 1000 * e ∧ 1000 * e < r * (t - s) + 1000 := by
  have h1 := (btI_yes ⟨hd, hs⟩).1
  have h2 := (btI_yes ⟨hd, ht⟩).1
  have e : r * (t - s) = t * r - s * r := by rw [Int.mul_sub, Int.mul_comm r t, Int.mul_comm r s]
  rw [e]
  exact ⟨t * r / 1000 - s * r / 1000, by omega, by omega, by omega⟩
theorem bt_step {r o t : Int} (hd : DrOk r o) (ht : 0 ≤ t ∧ t ≤ 999999) : 0 ≤ tdI r o t ∧ tdI r o t ≤ 2 ∧ btI r o (t + 1) = btI r o t + tdI r o t := by
  unfold tdI
  rw [if_pos ⟨hd, ht⟩]
  obtain ⟨e, h1, h2, h3⟩ := bt_diff (s := t) (t := t + 1) hd ⟨ht.1, by omega⟩ ⟨by omega, by omega⟩
  rw [show t + 1 - t = 1 by omega] at h1 h2 h3
  obtain ⟨⟨a, b⟩, _⟩ := hd
  omega
theorem bt_mono {r o s t : Int} (hd : DrOk r o) (hs : 0 ≤ s) (hst : s ≤ t) (ht : t ≤ 1000000) : btI r o s ≤ btI r o t := by
  obtain ⟨e, h1, h2, h3⟩ := bt_diff (s := s) (t := t) hd ⟨hs, by omega⟩ ⟨by omega, ht⟩
  have := mul_bounds hd.1 ⟨show 0 ≤ t - s by omega, by omega⟩
  rw [Int.mul_comm] at this
  omega
theorem bt_far {r o s t : Int} (hd : DrOk r o) (hs : 0 ≤ s) (hst : s + 2 ≤ t) (ht : t ≤ 1000000) : btI r o s < btI r o t := by
  obtain ⟨e, h1, h2, h3⟩ := bt_diff (s := s) (t := t) hd ⟨hs, by omega⟩ ⟨by omega, ht⟩
  have := mul_bounds hd.1 ⟨show 0 ≤ t - s by omega, by omega⟩
  rw [Int.mul_comm] at this
  omega
/-- The estimate between two pairs of a clock is right up to three. -/
theorem guess_near {r o s t x : Int} (hd : DrOk r o) (hs : 0 ≤ s) (ht : t ≤ 1000000) (hst : s + 20 ≤ t) (hx : s ≤ x) (hx2 : x ≤ t + 1) (hx3 : x ≤ 1000000) :
    x - 3 ≤ s + (btI r o x - btI r o s) * (t - s) / (btI r o t - btI r o s) ∧ s + (btI r o x - btI r o s) * (t - s) / (btI r o t - btI r o s) ≤ x + 3 := by
  obtain ⟨f, f1, f2, f3⟩ := bt_diff (s := s) (t := x) hd ⟨hs, by omega⟩ ⟨by omega, hx3⟩
  obtain ⟨g, g1, g2, g3⟩ := bt_diff (s := s) (t := t) hd ⟨hs, by omega⟩ ⟨by omega, ht⟩
  rw [f1, g1]
  have hD : 20 ≤ t - s := by omega
  have hX : 0 ≤ x - s := by omega
  have hXD : x - s ≤ t - s + 1 := by omega
  have hxs : x = s + (x - s) := by omega
  rw [show x - 3 = s + (x - s - 3) by omega, show x + 3 = s + (x - s + 3) by omega]
  generalize x - s = X at *
  generalize t - s = D at *
  obtain ⟨⟨r1, r2⟩, _⟩ := hd
  have hrD1 : -(100 * D) ≤ r * D := by have := Int.mul_le_mul_of_nonneg_right r1 (show 0 ≤ D by omega); omega
  -- M = D + g > 0
  have hM : 0 < D + g := by omega
  have h3M : 2 * D + 1 ≤ 3 * (D + g) := by omega
  -- f D - X g
  have a1 := Int.mul_lt_mul_of_pos_right f2 (show 0 < D by omega)
  have a2 := Int.mul_lt_mul_of_pos_right f3 (show 0 < D by omega)
  have b1 := Int.mul_le_mul_of_nonneg_left (Int.le_of_lt g2) hX
  have b2 := Int.mul_le_mul_of_nonneg_left (Int.le_of_lt g3) hX
  have c1 : (r * X - 1000) * D = X * (r * D) - 1000 * D := by rw [Int.sub_mul, Int.mul_comm r X, Int.mul_assoc]
  have c2 : (r * X + 1000) * D = X * (r * D) + 1000 * D := by rw [Int.add_mul, Int.mul_comm r X, Int.mul_assoc]
  have c3 : X * (r * D - 1000) = X * (r * D) - 1000 * X := by rw [Int.mul_sub, Int.mul_comm X 1000]
  have c4 : X * (r * D + 1000) = X * (r * D) + 1000 * X := by rw [Int.mul_add, Int.mul_comm X 1000]
  have c5 : 1000 * f * D = 1000 * (f * D) := Int.mul_assoc _ _ _
  have c6 : X * (1000 * g) = 1000 * (X * g) := by rw [Int.mul_left_comm]
  rw [c1, c5] at a1
  rw [c2, c5] at a2
  rw [c3, c6] at b1
  rw [c4, c6] at b2
  have hN : (X + f) * D = X * D + f * D := Int.add_mul _ _ _
  constructor
  · have : X - 3 ≤ (X + f) * D / (D + g) := by
      rw [Int.le_ediv_iff_mul_le hM, hN]
      have : (X - 3) * (D + g) = X * D + X * g - 3 * (D + g) := by rw [Int.sub_mul, Int.mul_add]
      omega
    omega
  · have : (X + f) * D / (D + g) < X + 4 := by
      rw [Int.ediv_lt_iff_lt_mul hM, hN]
      have : (X + 4) * (D + g) = X * D + X * g + 4 * (D + g) := by rw [Int.add_mul, Int.mul_add]
      omega
    omega
theorem rate_near {r o s t : Int} (hd : DrOk r o) (hs : 0 ≤ s) (ht : t ≤ 1000000) (hst : s < t) :
    (((btI r o t - btI r o s) - (t - s)) * 1000 / (t - s)) - r ≤ 1000 / (t - s) + 1 ∧ r - (((btI r o t - btI r o s) - (t - s)) * 1000 / (t - s)) ≤ 1000 / (t - s) + 1 := by
  obtain ⟨g, g1, g2, g3⟩ := bt_diff (s := s) (t := t) hd ⟨hs, by omega⟩ ⟨by omega, ht⟩
  rw [g1, show t - s + g - (t - s) = g by omega]
  have hD : 0 < t - s := by omega
  generalize t - s = D at *
  have e : 1000 = D * (1000 / D) + 1000 % D := (Int.mul_ediv_add_emod 1000 D).symm
  have m1 := Int.emod_nonneg 1000 (show D ≠ 0 by omega)
  have m2 := Int.emod_lt_of_pos 1000 hD
  generalize 1000 / D = Q at *
  generalize hR : 1000 % D = R at *
  constructor
  · have : g * 1000 / D < r + Q + 2 := by
      rw [Int.ediv_lt_iff_lt_mul hD]
      rw [Int.add_mul, Int.add_mul, Int.mul_comm Q D]
      omega
    omega
  · have : r - Q - 1 ≤ g * 1000 / D := by
      rw [Int.le_ediv_iff_mul_le hD, Int.sub_mul, Int.sub_mul, Int.mul_comm Q D]
      omega
    omega
end Go.Proofs.Ytdfcamlnebcbpac
