/- What this text proves: a plan misses nothing exactly if no stretch of time is asked for more than it has. -/
import Derived.Test.YtdfcamlnebcbpacPlM
import Derived.Test.YtdfcamlnebcbpacOrbM
namespace Go.Proofs.Ytdfcamlnebcbpac
set_option linter.unusedVariables false
/-- For each Ready and each Deadline, what is asked is no more than what is visible. -/
def Fea (L : List Rq) (c : Int → Int → Int) : Prop := ∀ i, i < L.length → ∀ k, k < L.length → demN L (rR L i) (rD L k) L.length ≤ c (rR L i) (rD L k)
theorem vis_cnt {p s l : Int} (h : OrbOk p s l) (a : Int) (n : Nat) (hn : a + n ≤ 1000001) : visN (fun t => decide (Vis p s l t)) a n = befI p s l (a + n) - befI p s l a := by
  induction n with
  | zero => simp [visN]
  | succ n ih =>
    rw [visN_succ, ih (by omega), show a + ((n + 1 : Nat) : Int) = a + n + 1 by omega, bef_step h (by omega)]
    by_cases hv : Vis p s l (a + n)
    · rw [if_pos hv, if_pos (decide_eq_true hv)]; omega
    · rw [if_neg hv, if_neg (by simp [hv])]; omega
theorem dem_none {L : List Rq} (h : RqsOk L) {a b : Int} (hab : b < a) : demN L a b L.length = 0 := by
  unfold demN
  have : sumP (InP L a b) (rN L) L.length = sumP (fun _ => False) (rN L) L.length := sumP_congr _ _ _ _ fun k hk => ⟨fun ⟨h1, h2⟩ => by have := (h.at hk).2.2.1.1; have h3 : rR L k ≤ rD L k := this; omega, fun f => f.elim⟩
  rw [this]
  have z : ∀ n, sumP (fun _ => False) (rN L) n = 0 := fun n => by
    induction n with
    | zero => rfl
    | succ n ih => unfold sumP; rw [ih]; simp
  exact z _
/-- A plan misses nothing exactly if no stretch of time is asked for more than it has. -/
theorem fea_iff {p s l : Int} {L : List Rq} (ho : OrbOk p s l) (h : RqsOk L) :
    Fea L (cntR p s l) ↔ ∀ k, k < L.length → rN L k ≤ gAt (fun t => decide (Vis p s l t)) L 1000001 k := by
  have hD : ∀ k, k < L.length → 0 ≤ rR L k ∧ rR L k ≤ 1000000 ∧ rR L k ≤ rD L k ∧ rD L k ≤ 1000000 := fun k hk => by
    have a : 0 ≤ rR L k ∧ rR L k ≤ 1000000 := (h.at hk).2.1
    have b : rR L k ≤ rD L k ∧ rD L k ≤ min 1000000 (rR L k + 2000) := (h.at hk).2.2.1
    omega
  have hc : ∀ a b, 0 ≤ a → a ≤ b → b ≤ 1000000 → cntR p s l a b = visN (fun t => decide (Vis p s l t)) a (b - a + 1).toNat := fun a b h1 h2 h3 => by
    rw [vis_cnt ho a _ (by omega), show a + ((b - a + 1).toNat : Int) = b + 1 by omega]
    unfold cntR
    rw [if_pos ⟨ho, ⟨by omega, by omega⟩, by omega, by omega⟩]
    have := bef_le (a := a) (b := b + 1) ho (by omega) (by omega)
    omega
  constructor
  · intro hf k hk
    apply Classical.byContradiction
    intro hm
    obtain ⟨i, hi, hle, hlt⟩ := missed_full (V := fun t => decide (Vis p s l t)) h 1000001 k hk (by have := hD k hk; omega) (by omega)
    have := hf i hi k hk
    rw [hc _ _ (hD i hi).1 hle (hD k hk).2.2.2] at this
    omega
  · intro hm i hi k hk
    rcases Int.lt_or_le (rD L k) (rR L i) with hh | hh
    · rw [dem_none h hh]
      unfold cntR; split <;> omega
    · rw [hc _ _ (hD i hi).1 hh (hD k hk).2.2.2]
      exact full_missed h 1000001 hm _ _ (hD i hi).1 hh
end Go.Proofs.Ytdfcamlnebcbpac
