/- What this text proves: the parts StIn, CtB of the proof, each under its own words. -/
import Derived.Test.YtckofkdeedbbgaaRR11
import Derived.Test.YtckofkdeedbbgaaRR07
import Derived.Test.YtckofkdeedbbgaaRR00
import Derived.Lib.AppendZeros
/- What this text proves: append at lists of numbers that lie apart from other things. -/
namespace Go.Proofs.Ytckofkdeedbbgaa
open Go.ChangeShapes Go.WideShapes Go.ChangeAt Go.RowKit
set_option linter.unusedVariables false

theorem app_ins {ops : Array Oper} {rest : List Oper} {o : Oper} {a : Act} {Q : Exit → Act → World → Prop} {w W : World} {L : List Thing} (hst : St w W L) (idx : Nat) (v : Value) (l : List Int) (e : L[idx]? = some (rowT 3 1 v (l.map inC))) (hgd : o.guard = none) (s x : Operand)
    (ho : o.op = .call { callee := .builtin .append, args := #[s, x], argTypes := #[24, 24] }) (hs : a.eval s = v) (A : Option Addr) (new : List Int) (k : Nat) (hx : a.eval x = .slice A new.length k) (hat : RowsAt W A (new.map inC)) (hlen : l.length + new.length ≤ 1099511)
    (h : ∀ A' n' c' w', n' = (l ++ new).length → St w w' (L.set idx (rowT 3 1 (.slice A' n' c') ((l ++ new).map inC))) → wpList Try.prog ops Q rest (a.put o.dst (.slice A' n' c')) w') :
    wpList Try.prog ops Q (o :: rest) a W := by
  refine app_St hst idx 3 24 1 8 (.int .i64 0) hgd s x ho Try.underlying24 info_int rfl (by decide) (by decide) v (l.map inC) e hs A (new.map inC) k (by rw [List.length_map]; exact hx) (in_len new) (in_one new) hat (by rw [List.length_map, List.length_map]; exact hlen) ?_
  intro A' c' w' h1
  rw [← List.map_append, List.length_map] at h1 ⊢
  exact h A' _ c' w' rfl h1
theorem step_ins {ops : Array Oper} {o : Oper} {a : Act} {K : Act → World → Prop} {Q : Exit → Act → World → Prop} {EE : Prop} {w W : World} {L : List Thing} (hst : St w W L) (idx : Nat) (v : Value) (l : List Int) (e : L[idx]? = some (rowT 3 1 v (l.map inC))) (hgd : o.guard = none) (s x : Operand)
    (ho : o.op = .call { callee := .builtin .append, args := #[s, x], argTypes := #[24, 24] }) (hs : a.eval s = v) (A : Option Addr) (new : List Int) (k : Nat) (hx : a.eval x = .slice A new.length k) (hat : RowsAt W A (new.map inC)) (hlen : l.length + new.length ≤ 1099511)
    (h : ∀ A' n' c' w', n' = (l ++ new).length → St w w' (L.set idx (rowT 3 1 (.slice A' n' c') ((l ++ new).map inC))) → K (a.put o.dst (.slice A' n' c')) w') :
    if Region.wanted o (yielded ops a.tmps) = true then Oper.wp Try.prog o a W K Q else EE := by
  refine step_St hst idx 3 24 1 8 (.int .i64 0) hgd s x ho Try.underlying24 info_int rfl (by decide) (by decide) v (l.map inC) e hs A (new.map inC) k (by rw [List.length_map]; exact hx) (in_len new) (in_one new) hat (by rw [List.length_map, List.length_map]; exact hlen) ?_
  intro A' c' w' h1
  rw [← List.map_append, List.length_map] at h1 ⊢
  exact h A' _ c' w' rfl h1
end Go.Proofs.Ytckofkdeedbbgaa
/- What this text proves: sums of lengths and joins of lists, for slices.Concat. -/
namespace Go.Proofs.Ytckofkdeedbbgaa
open Go.ChangeShapes Go.WideShapes Go.ChangeAt Go.RowKit
set_option linter.unusedVariables false

theorem zc_size (xs : Array Value) (n : Nat) : (Builtin.zeroCells xs n).size = n * xs.size := by
  unfold Builtin.zeroCells
  simp

/-- The sum of the lengths of the first k. -/
def sumL (ss : List (Option Addr × List (List Value) × Nat)) : Nat → Nat
  | 0 => 0
  | k + 1 => sumL ss k + (ss.getD k (none, [], 0)).2.1.length
def catL (ss : List (Option Addr × List (List Value) × Nat)) : Nat → List (List Value)
  | 0 => []
  | k + 1 => catL ss k ++ (ss.getD k (none, [], 0)).2.1
theorem catL_len (ss : List (Option Addr × List (List Value) × Nat)) (k : Nat) : (catL ss k).length = sumL ss k := by
  induction k with
  | zero => rfl
  | succ k ih => simp only [catL, sumL, List.length_append, ih]
theorem sumL_le (ss : List (Option Addr × List (List Value) × Nat)) {j k : Nat} (h : j ≤ k) : sumL ss j ≤ sumL ss k := by
  induction k with
  | zero => obtain rfl : j = 0 := by omega
            exact Nat.le_refl _
  | succ k ih =>
    rcases Nat.lt_or_ge j (k + 1) with h1 | h1
    · exact Nat.le_trans (ih (by omega)) (Nat.le_add_right _ _)
    · obtain rfl : j = k + 1 := by omega
      exact Nat.le_refl _
theorem getC_at {ss : List (Option Addr × List (List Value) × Nat)} {k : Nat} (h : k < ss.length) : ss.getD k (none, [], 0) = ss[k] := by
  rw [List.getD_eq_getElem?_getD, List.getElem?_eq_getElem h]
  rfl
end Go.Proofs.Ytckofkdeedbbgaa
