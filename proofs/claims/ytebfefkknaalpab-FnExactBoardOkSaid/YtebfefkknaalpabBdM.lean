/- What this text proves: what makes the lists of a board valid, as facts of their elements; how far a loop over them has got. -/
import Derived.Test.YtebfefkknaalpabRoM
import Derived.Test.YtebfefkknaalpabLmS
import Derived.Test.YtebfefkknaalpabWtS
import Derived.Test.YtebfefkknaalpabDnS
namespace Go.Proofs.Ytebfefkknaalpab
open Go.ChangeShapes Go.WideShapes Go.ChangeAt Go.RowKit
set_option linter.unusedVariables false

def LimOk (p : Lm) : Prop := (0 ≤ p.1 ∧ p.1 ≤ 7) ∧ (0 ≤ p.2.1 ∧ p.2.1 ≤ 65535) ∧ (0 ≤ p.2.2 ∧ p.2.2 ≤ 65535)
instance (p : Lm) : Decidable (LimOk p) := by unfold LimOk; infer_instance
def LimsOk (l : List Lm) : Prop := ∀ k (hk : k < l.length), LimOk l[k]
noncomputable def limB (l : List Lm) : Bool := @decide (LimsOk l ∧ l.length ≤ 8) (Classical.propDecidable _)
theorem limB_yes {l : List Lm} (h : LimsOk l ∧ l.length ≤ 8) : limB l = true := by unfold limB; exact @decide_eq_true _ (Classical.propDecidable _) h
theorem limB_no {l : List Lm} (h : ¬ (LimsOk l ∧ l.length ≤ 8)) : limB l = false := by unfold limB; exact @decide_eq_false _ (Classical.propDecidable _) h
def DnOk (T : Int) (p : Dn) : Prop := (0 ≤ p.1 ∧ p.1 ≤ T - 1) ∧ (0 ≤ p.2.1 ∧ p.2.1 ≤ 1000000) ∧ (0 ≤ p.2.2 ∧ p.2.2 ≤ 1)
instance (T : Int) (p : Dn) : Decidable (DnOk T p) := by unfold DnOk; infer_instance
def DnsOk (T : Int) (l : List Dn) : Prop := ∀ k (hk : k < l.length), DnOk T l[k]
noncomputable def dnB (T : Int) (l : List Dn) : Bool := @decide (DnsOk T l ∧ l.length ≤ 5000) (Classical.propDecidable _)
theorem dnB_yes {T : Int} {l : List Dn} (h : DnsOk T l ∧ l.length ≤ 5000) : dnB T l = true := by unfold dnB; exact @decide_eq_true _ (Classical.propDecidable _) h
theorem dnB_no {T : Int} {l : List Dn} (h : ¬ (DnsOk T l ∧ l.length ≤ 5000)) : dnB T l = false := by unfold dnB; exact @decide_eq_false _ (Classical.propDecidable _) h
/-- An order that waits has its turn before another one. -/
def bef (u v : Wt) : Prop := u.2.2.1 < v.2.2.1 ∨ (u.2.2.1 = v.2.2.1 ∧ u.1 < v.1)
instance (u v : Wt) : Decidable (bef u v) := by unfold bef; infer_instance
def WtC (p : Wt) : Prop := OrOk p.2.1 p.2.2.1 p.2.2.2.1 p.2.2.2.2
instance (p : Wt) : Decidable (WtC p) := by unfold WtC; infer_instance
/-- The k-th order that waits is as a board's must be. -/
def OrdAt (T : Int) (l : List Wt) (k : Nat) (hk : k < l.length) : Prop := WtC l[k] ∧ (0 ≤ l[k].1 ∧ l[k].1 ≤ T - 1) ∧ (∀ j (hj : j < k), l[j].1 ≠ l[k].1) ∧ (∀ m (hm : m + 1 = k), bef l[m] l[k])
def OrdTo (T : Int) (l : List Wt) (k : Nat) : Prop := ∀ j (hj : j < l.length), j < k → OrdAt T l j hj
theorem OrdTo.zero (T : Int) (l : List Wt) : OrdTo T l 0 := fun j _ h => absurd h (Nat.not_lt_zero _)
theorem OrdTo.succ {T : Int} {l : List Wt} {k : Nat} (h : OrdTo T l k) (hk : k < l.length) (h1 : OrdAt T l k hk) : OrdTo T l (k + 1) := fun j hj hjk => by
  rcases Nat.lt_or_ge j k with h3 | h3
  · exact h j hj h3
  · obtain rfl : j = k := by omega
    exact h1
noncomputable def ordB (T : Int) (l : List Wt) : Bool := @decide (l.length ≤ 40 ∧ OrdTo T l l.length) (Classical.propDecidable _)
theorem ordB_yes {T : Int} {l : List Wt} (h : l.length ≤ 40 ∧ OrdTo T l l.length) : ordB T l = true := by unfold ordB; exact @decide_eq_true _ (Classical.propDecidable _) h
theorem ordB_no {T : Int} {l : List Wt} (h : ¬ (l.length ≤ 40 ∧ OrdTo T l l.length)) : ordB T l = false := by unfold ordB; exact @decide_eq_false _ (Classical.propDecidable _) h
/-- i is the first place of a number; -1 where it does not stand. -/
def PlcIs (l : List Wt) (num i : Int) : Prop := (i = -1 ∧ ∀ j (hj : j < l.length), l[j].1 ≠ num) ∨ (∃ (k : Nat) (hk : k < l.length), i = (k : Int) ∧ l[k].1 = num ∧ ∀ j (hj : j < k), l[j].1 ≠ num)
theorem PlcIs.own {l : List Wt} {i : Int} {k : Nat} {hk : k < l.length} (h : PlcIs l l[k].1 i) : i = (k : Int) ↔ ∀ j (hj : j < k), l[j].1 ≠ l[k].1 := by
  rcases h with ⟨_, h⟩ | ⟨m, hm, rfl, h1, h2⟩
  · exact absurd rfl (h k hk)
  · constructor
    · intro e
      obtain rfl : m = k := by omega
      exact h2
    · intro hall
      rcases Nat.lt_trichotomy m k with h3 | h3 | h3
      · exact absurd h1 (hall m h3)
      · omega
      · exact absurd rfl (h2 k h3)
end Go.Proofs.Ytebfefkknaalpab
