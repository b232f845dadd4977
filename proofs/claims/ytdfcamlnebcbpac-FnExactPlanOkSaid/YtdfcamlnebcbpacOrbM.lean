/- What this text proves: the times at which an orbit is visible, as numbers: how many there are, and which comes next. -/
import Derived.Test.YtdfcamlnebcbpacLaw
namespace Go.Proofs.Ytdfcamlnebcbpac
set_option linter.unusedVariables false
def OrbOk (p s l : Int) : Prop := (1 ≤ p ∧ p ≤ 1000) ∧ (0 ≤ s ∧ s ≤ p - 1) ∧ (1 ≤ l ∧ l ≤ p)
instance (p s l : Int) : Decidable (OrbOk p s l) := by unfold OrbOk; infer_instance
/-- A time at which the satellite is visible. -/
def Vis (p s l t : Int) : Prop := OrbOk p s l ∧ (s ≤ t ∧ t ≤ 1000000) ∧ (t - s) % p < l
instance (p s l t : Int) : Decidable (Vis p s l t) := by unfold Vis; infer_instance
def pasR (p s l t : Int) : Int := if Vis p s l t then (t - s) / p else -1
/-- The visible time that comes next, without a limit. -/
def nxI (p s l t : Int) : Int := if l ≤ (max t s - s) % p then max t s + (p - (max t s - s) % p) else max t s
def nxR (p s l t : Int) : Int := if OrbOk p s l ∧ (0 ≤ t ∧ t ≤ 1000000) ∧ nxI p s l t ≤ 1000000 then nxI p s l t else -1
/-- How many of the times before t are visible. -/
def befI (p s l t : Int) : Int := (max 0 (t - s)) / p * l + min ((max 0 (t - s)) % p) l
def cntR (p s l a b : Int) : Int := if OrbOk p s l ∧ (0 ≤ a ∧ a ≤ 1000000) ∧ (0 ≤ b ∧ b ≤ 1000000) then max 0 (befI p s l (b + 1) - befI p s l a) else 0

theorem emod_next {p n : Int} (hp : 0 < p) : (n + 1) % p = (if n % p = p - 1 then 0 else n % p + 1) ∧ (n + 1) / p = (if n % p = p - 1 then n / p + 1 else n / p) := by
  have h1 := Int.emod_nonneg n (show p ≠ 0 by omega)
  have h2 := Int.emod_lt_of_pos n hp
  have h3 := Int.mul_ediv_add_emod n p
  split
  · rename_i h
    have e : n + 1 = p * (n / p + 1) := by rw [Int.mul_add]; omega
    rw [e]
    exact ⟨by simp, by rw [Int.mul_ediv_cancel_left _ (by omega)]⟩
  · rename_i h
    have e : n + 1 = (n % p + 1) + p * (n / p) := by omega
    constructor
    · rw [e, Int.add_mul_emod_self_left, Int.emod_eq_of_lt (by omega) (by omega)]
    · rw [e, Int.add_mul_ediv_left _ _ (by omega), Int.ediv_eq_zero_of_lt (by omega) (by omega)]; omega
theorem bef_step {p s l t : Int} (h : OrbOk p s l) (ht : t ≤ 1000000) : befI p s l (t + 1) = befI p s l t + (if Vis p s l t then 1 else 0) := by
  obtain ⟨⟨a1, a2⟩, ⟨b1, b2⟩, c1, c2⟩ := id h
  unfold befI
  by_cases hs : s ≤ t
  · rw [show max 0 (t + 1 - s) = (t - s) + 1 by omega, show max 0 (t - s) = t - s by omega]
    obtain ⟨e1, e2⟩ := emod_next (p := p) (n := t - s) (by omega)
    have m1 := Int.emod_nonneg (t - s) (show p ≠ 0 by omega)
    have m2 := Int.emod_lt_of_pos (t - s) (show 0 < p by omega)
    rw [e1, e2]
    by_cases hl : (t - s) % p < l
    · rw [if_pos (show Vis p s l t from ⟨h, ⟨hs, ht⟩, hl⟩)]
      split
      · rename_i hh
        rw [Int.add_mul]; omega
      · omega
    · rw [if_neg (show ¬ Vis p s l t from fun hv => hl hv.2.2)]
      split
      · rename_i hh
        rw [Int.add_mul]; omega
      · omega
  · rw [if_neg (show ¬ Vis p s l t from fun hv => hs hv.2.1.1)]
    rw [show max 0 (t + 1 - s) = 0 by omega, show max 0 (t - s) = 0 by omega]
    omega
theorem bef_zero {p s l : Int} (h : OrbOk p s l) : befI p s l 0 = 0 := by
  obtain ⟨⟨a1, a2⟩, ⟨b1, b2⟩, c1, c2⟩ := h
  unfold befI
  rw [show max 0 (0 - s) = 0 by omega]
  simp; omega
theorem bef_mono {p s l a : Int} (h : OrbOk p s l) (d : Nat) (hd : a + d ≤ 1000001) : befI p s l a ≤ befI p s l (a + d) := by
  induction d with
  | zero => simp
  | succ d ih =>
    have := bef_step (t := a + d) h (by omega)
    have e : a + ((d + 1 : Nat) : Int) = a + d + 1 := by omega
    rw [e, this]
    have := ih (by omega)
    split <;> omega
theorem bef_le {p s l a b : Int} (h : OrbOk p s l) (hab : a ≤ b) (hb : b ≤ 1000001) : befI p s l a ≤ befI p s l b := by
  have := bef_mono (a := a) h (b - a).toNat (by omega)
  rwa [show a + ((b - a).toNat : Int) = b by omega] at this
theorem bef_bounds {p s l t : Int} (h : OrbOk p s l) (ht : 0 ≤ t ∧ t ≤ 1000001) : 0 ≤ befI p s l t ∧ befI p s l t ≤ t := by
  have h0 := bef_le (a := 0) h ht.1 ht.2
  rw [bef_zero h] at h0
  refine ⟨h0, ?_⟩
  have : ∀ d : Nat, (d : Int) ≤ 1000001 → befI p s l d ≤ d := fun d => by
    induction d with
    | zero => intro _; simp [bef_zero h]
    | succ d ih =>
      intro hd
      have e := bef_step (t := d) h (by omega)
      have i := ih (by omega)
      rw [show ((d + 1 : Nat) : Int) = (d : Int) + 1 by omega, e]
      split <;> omega
  have := this t.toNat (by omega)
  rwa [show (t.toNat : Int) = t by omega] at this
/-- The numbers as the model has them: visible times from 0 to t. -/
theorem bef_model {p s l t : Int} (h : OrbOk p s l) (ht : t ≤ 1000000) : befI p s l (t + 1) = (if t < s then 0 else (t - s) / p * l + min l ((t - s) % p + 1)) := by
  obtain ⟨⟨a1, a2⟩, ⟨b1, b2⟩, c1, c2⟩ := id h
  unfold befI
  split
  · rw [show max 0 (t + 1 - s) = 0 by omega]; simp; omega
  · rename_i hs
    rw [show max 0 (t + 1 - s) = (t - s) + 1 by omega]
    obtain ⟨e1, e2⟩ := emod_next (p := p) (n := t - s) (by omega)
    have m1 := Int.emod_nonneg (t - s) (show p ≠ 0 by omega)
    have m2 := Int.emod_lt_of_pos (t - s) (show 0 < p by omega)
    rw [e1, e2]
    split
    · rename_i hh
      rw [Int.add_mul]; omega
    · omega
/-- The next visible time: it is visible, none before it is, and it is not far. -/
theorem nx_facts {p s l t : Int} (h : OrbOk p s l) (ht : 0 ≤ t) : t ≤ nxI p s l t ∧ nxI p s l t < t + 2 * p ∧ (nxI p s l t ≤ 1000000 → Vis p s l (nxI p s l t)) ∧ ∀ u, t ≤ u → u < nxI p s l t → ¬ Vis p s l u := by
  obtain ⟨⟨a1, a2⟩, ⟨b1, b2⟩, c1, c2⟩ := id h
  have m1 := Int.emod_nonneg (max t s - s) (show p ≠ 0 by omega)
  have m2 := Int.emod_lt_of_pos (max t s - s) (show 0 < p by omega)
  have m3 := Int.mul_ediv_add_emod (max t s - s) p
  unfold nxI
  split
  · rename_i hl
    refine ⟨by omega, by omega, fun hM => ⟨h, ⟨by omega, hM⟩, ?_⟩, fun u hu1 hu2 hv => ?_⟩
    · have e : max t s + (p - (max t s - s) % p) - s = p * ((max t s - s) / p + 1) := by rw [Int.mul_add]; omega
      rw [e]; simp; omega
    · obtain ⟨_, ⟨hs, _⟩, hlt⟩ := hv
      have e : u - s = ((u - s) - p * ((max t s - s) / p)) + p * ((max t s - s) / p) := by omega
      rw [e, Int.add_mul_emod_self_left, Int.emod_eq_of_lt (by omega) (by omega)] at hlt
      omega
  · rename_i hl
    refine ⟨by omega, by omega, fun hM => ⟨h, ⟨by omega, hM⟩, by omega⟩, fun u hu1 hu2 hv => ?_⟩
    obtain ⟨_, ⟨hs, _⟩, hlt⟩ := hv
    omega
theorem nxR_no {p s l t : Int} (h : ¬ (OrbOk p s l ∧ (0 ≤ t ∧ t ≤ 1000000))) : nxR p s l t = -1 := by
  unfold nxR; rw [if_neg (fun hh => h ⟨hh.1, hh.2.1⟩)]
theorem nxR_far {p s l t : Int} (h : ¬ nxI p s l t ≤ 1000000) : nxR p s l t = -1 := by
  unfold nxR; rw [if_neg (fun hh => h hh.2.2)]
theorem nxR_yes {p s l t : Int} (h : OrbOk p s l) (ht : 0 ≤ t ∧ t ≤ 1000000) (h2 : nxI p s l t ≤ 1000000) : nxR p s l t = nxI p s l t := by
  unfold nxR; rw [if_pos ⟨h, ht, h2⟩]
/-- The model's search: the first k at which the time is visible. -/
theorem nx_found {p s l t : Int} (h : OrbOk p s l) (ht : 0 ≤ t ∧ t ≤ 1000000) (k : Nat) (hk : ∀ j : Nat, j < k → ¬ Vis p s l (t + j)) (hv : Vis p s l (t + k)) : nxR p s l t = t + k := by
  obtain ⟨f1, f2, f3, f4⟩ := nx_facts h ht.1
  have hM := hv.2.1.2
  have e : nxI p s l t = t + k := by
    rcases Int.lt_trichotomy (nxI p s l t) (t + k) with hh | hh | hh
    · exfalso
      refine hk (nxI p s l t - t).toNat (by omega) ?_
      rw [show t + ((nxI p s l t - t).toNat : Int) = nxI p s l t by omega]
      exact f3 (by omega)
    · exact hh
    · exact absurd hv (f4 _ (by omega) hh)
  rw [nxR_yes h ht (by omega), e]
theorem nx_none {p s l t : Int} (h : OrbOk p s l) (ht : 0 ≤ t ∧ t ≤ 1000000) (k : Nat) (hk : ∀ j : Nat, j < k → ¬ Vis p s l (t + j)) (he : 2 * p < k ∨ 1000000 - k < t) : nxR p s l t = -1 := by
  obtain ⟨f1, f2, f3, f4⟩ := nx_facts h ht.1
  by_cases hn : nxI p s l t ≤ 1000000
  · exfalso
    refine hk (nxI p s l t - t).toNat (by omega) ?_
    rw [show t + ((nxI p s l t - t).toNat : Int) = nxI p s l t by omega]
    exact f3 hn
  · exact nxR_far hn
end Go.Proofs.Ytdfcamlnebcbpac
