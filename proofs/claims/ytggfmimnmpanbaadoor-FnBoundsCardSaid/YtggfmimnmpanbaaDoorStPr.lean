/- What this text proves: append at lists of pairs that lie apart from other things. -/
import Derived.Test.YtggfmimnmpanbaaDoorStA
import Derived.Test.YtggfmimnmpanbaaDoorPrS
namespace Go.Proofs.YtggfmimnmpanbaaDoor
open Go.ChangeShapes Go.WideShapes Go.ChangeAt Go.RowKit
set_option linter.unusedVariables false

theorem app_prs {ops : Array Oper} {rest : List Oper} {o : Oper} {a : Act} {Q : Exit → Act → World → Prop} {w W : World} {L : List Thing} (hst : St w W L) (idx : Nat) (v : Value) (l : List Pr) (e : L[idx]? = some (rowT 32 2 v (l.map prC))) (hgd : o.guard = none) (s x : Operand)
    (ho : o.op = .call { callee := .builtin .append, args := #[s, x], argTypes := #[27, 27] }) (hs : a.eval s = v) (A : Option Addr) (new : List Pr) (k : Nat) (hx : a.eval x = .slice A new.length k) (hat : RowsAt W A (new.map prC)) (hlen : l.length + new.length ≤ 1099511)
    (h : ∀ A' n' c' w', n' = (l ++ new).length → St w w' (L.set idx (rowT 32 2 (.slice A' n' c') ((l ++ new).map prC))) → wpList Tryd.prog ops Q rest (a.put o.dst (.slice A' n' c')) w') :
    wpList Tryd.prog ops Q (o :: rest) a W := by
  refine app_St hst idx 32 27 2 16 (.agg #[.int .i64 0, .int .i64 0]) hgd s x ho Tryd.underlying27 info_pr rfl (by decide) (by decide) v (l.map prC) e hs A (new.map prC) k (by rw [List.length_map]; exact hx) (pr_len new) (pr_one new) hat (by rw [List.length_map, List.length_map]; exact hlen) ?_
  intro A' c' w' h1
  rw [← List.map_append, List.length_map] at h1 ⊢
  exact h A' _ c' w' rfl h1
theorem step_prs {ops : Array Oper} {o : Oper} {a : Act} {K : Act → World → Prop} {Q : Exit → Act → World → Prop} {EE : Prop} {w W : World} {L : List Thing} (hst : St w W L) (idx : Nat) (v : Value) (l : List Pr) (e : L[idx]? = some (rowT 32 2 v (l.map prC))) (hgd : o.guard = none) (s x : Operand)
    (ho : o.op = .call { callee := .builtin .append, args := #[s, x], argTypes := #[27, 27] }) (hs : a.eval s = v) (A : Option Addr) (new : List Pr) (k : Nat) (hx : a.eval x = .slice A new.length k) (hat : RowsAt W A (new.map prC)) (hlen : l.length + new.length ≤ 1099511)
    (h : ∀ A' n' c' w', n' = (l ++ new).length → St w w' (L.set idx (rowT 32 2 (.slice A' n' c') ((l ++ new).map prC))) → K (a.put o.dst (.slice A' n' c')) w') :
    if Region.wanted o (yielded ops a.tmps) = true then Oper.wp Tryd.prog o a W K Q else EE := by
  refine step_St hst idx 32 27 2 16 (.agg #[.int .i64 0, .int .i64 0]) hgd s x ho Tryd.underlying27 info_pr rfl (by decide) (by decide) v (l.map prC) e hs A (new.map prC) k (by rw [List.length_map]; exact hx) (pr_len new) (pr_one new) hat (by rw [List.length_map, List.length_map]; exact hlen) ?_
  intro A' c' w' h1
  rw [← List.map_append, List.length_map] at h1 ⊢
  exact h A' _ c' w' rfl h1
end Go.Proofs.YtggfmimnmpanbaaDoor
