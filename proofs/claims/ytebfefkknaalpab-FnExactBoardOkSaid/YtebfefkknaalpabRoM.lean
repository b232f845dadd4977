/- What this text proves: what makes a recorder valid, as a fact of its records and numbers; how far a loop over them has got. -/
import Derived.Test.YtebfefkknaalpabRcT
import Derived.Test.YtebfefkknaalpabInS
namespace Go.Proofs.Ytebfefkknaalpab
open Go.ChangeShapes Go.WideShapes Go.ChangeAt Go.RowKit
set_option linter.unusedVariables false

abbrev roV (r : Int) (v u : Value) : Value := .agg #[.int .i64 r, v, u]
abbrev roL (r : Int) (v u : Value) : List Value := [.int .i64 r, v, u]
abbrev Cells3Q (W : World) (g : Nat) (x y z : Value) : Prop := W.cell? ⟨g, 0, none⟩ = some x ∧ W.cell? ⟨g, 1, none⟩ = some y ∧ W.cell? ⟨g, 2, none⟩ = some z
theorem Box.threeQ {W : World} {g : Nat} {x y z : Value} (h : Box W g [x, y, z]) : Cells3Q W g x y z := ⟨h.cell 0 (by simp), h.cell 1 (by simp), h.cell 2 (by simp)⟩
def RdC (p : Rc) : Prop := RdOk p.1 p.2.1 p.2.2.1 p.2.2.2
instance (p : Rc) : Decidable (RdC p) := by unfold RdC; infer_instance
/-- The Id of the record before the k-th; -1 before the first. -/
def befR (l : List Rc) : Nat → Int
  | 0 => -1
  | k + 1 => (l.getD k rc0).1
/-- The first k records are valid, with ascending Ids. -/
def UpTo (l : List Rc) (k : Nat) : Prop := ∀ j, j < k → RdC (l.getD j rc0) ∧ befR l j < (l.getD j rc0).1
theorem UpTo.zero (l : List Rc) : UpTo l 0 := fun j h => absurd h (Nat.not_lt_zero _)
theorem UpTo.succ {l : List Rc} {k : Nat} (h : UpTo l k) (h1 : RdC (l.getD k rc0)) (h2 : befR l k < (l.getD k rc0).1) : UpTo l (k + 1) := fun j hj => by
  rcases Nat.lt_or_ge j k with h3 | h3
  · exact h j h3
  · obtain rfl : j = k := by omega
    exact ⟨h1, h2⟩
/-- The bytes of the first k records. -/
def useR (l : List Rc) (k : Nat) : Nat := 6 * k + totRc l k
theorem useR_zero (l : List Rc) : useR l 0 = 0 := by simp [useR, totRc]
theorem useR_succ (l : List Rc) (k : Nat) : useR l (k + 1) = useR l k + (6 + (l.getD k rc0).2.2.2.size) := by simp only [useR, totRc]; omega
theorem useR_le (l : List Rc) {j k : Nat} (h : j ≤ k) : useR l j ≤ useR l k := by
  have := totRc_le l h
  unfold useR
  omega
/-- All numbers lie between two. -/
def Within (d : List Int) (a b : Int) : Prop := ∀ x ∈ d, a ≤ x ∧ x ≤ b
def RcrOk (r : Int) (l : List Rc) (d : List Int) : Prop := (0 ≤ r ∧ r ≤ 4000) ∧ UpTo l l.length ∧ (useR l l.length : Int) ≤ r ∧ d.length ≤ 65536 ∧ Within d 0 65535
noncomputable def rcrB (r : Int) (l : List Rc) (d : List Int) : Bool := @decide (RcrOk r l d) (Classical.propDecidable _)
theorem rcrB_yes {r : Int} {l : List Rc} {d : List Int} (h : RcrOk r l d) : rcrB r l d = true := by unfold rcrB; exact @decide_eq_true _ (Classical.propDecidable _) h
theorem rcrB_no {r : Int} {l : List Rc} {d : List Int} (h : ¬ RcrOk r l d) : rcrB r l d = false := by unfold rcrB; exact @decide_eq_false _ (Classical.propDecidable _) h
theorem rcrB_iff {r : Int} {l : List Rc} {d : List Int} : rcrB r l d = true ↔ RcrOk r l d := by
  by_cases h : RcrOk r l d
  · simp [rcrB_yes h, h]
  · simp [rcrB_no h, h]
noncomputable def upB (l : List Rc) : Bool := @decide (UpTo l l.length) (Classical.propDecidable _)
theorem upB_yes {l : List Rc} (h : UpTo l l.length) : upB l = true := by unfold upB; exact @decide_eq_true _ (Classical.propDecidable _) h
theorem upB_no {l : List Rc} (h : ¬ UpTo l l.length) : upB l = false := by unfold upB; exact @decide_eq_false _ (Classical.propDecidable _) h
noncomputable def winB (d : List Int) (a b : Int) : Bool := @decide (Within d a b) (Classical.propDecidable _)
theorem winB_yes {d : List Int} {a b : Int} (h : Within d a b) : winB d a b = true := by unfold winB; exact @decide_eq_true _ (Classical.propDecidable _) h
theorem winB_no {d : List Int} {a b : Int} (h : ¬ Within d a b) : winB d a b = false := by unfold winB; exact @decide_eq_false _ (Classical.propDecidable _) h
theorem within_all {d : List Int} {a b : Int} (h : ∀ k (hk : k < d.length), a ≤ d[k] ∧ d[k] ≤ b) : Within d a b := fun x hx => by
  obtain ⟨k, hk, rfl⟩ := List.mem_iff_getElem.1 hx
  exact h k hk
theorem within_at {d : List Int} {a b : Int} (h : Within d a b) (k : Nat) (hk : k < d.length) : a ≤ d[k] ∧ d[k] ≤ b := h _ (List.getElem_mem hk)
theorem upTo_at {l : List Rc} {n k : Nat} (h : UpTo l n) (hk : k < n) (hl : k < l.length) : RdC l[k] ∧ befR l k < l[k].1 := by
  have := h k hk
  rwa [getRc_at hl] at this
/-- What RoomLeft answers. -/
noncomputable def leftR (r : Int) (l : List Rc) (d : List Int) : Int := open Classical in if RcrOk r l d then r - ((useR l l.length : Nat) : Int) else 0
theorem leftR_yes {r : Int} {l : List Rc} {d : List Int} (h : RcrOk r l d) : leftR r l d = r - ((useR l l.length : Nat) : Int) := by unfold leftR; rw [if_pos h]
theorem leftR_no {r : Int} {l : List Rc} {d : List Int} (h : ¬ RcrOk r l d) : leftR r l d = 0 := by unfold leftR; rw [if_neg h]
end Go.Proofs.Ytebfefkknaalpab
