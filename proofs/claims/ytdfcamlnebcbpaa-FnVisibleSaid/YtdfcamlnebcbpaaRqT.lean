/- What this text proves: the contracts of the laws' own functions over a list of requests that was handed to them: its size, its copy. -/
import Derived.Test.YtdfcamlnebcbpaaRqS
import Derived.Test.YtdfcamlnebcbpaaGro
import Derived.Laws.MakeOwn
import Derived.Deep.LoopGhost
namespace Go.Proofs.Ytdfcamlnebcbpaa
open Go.ChangeShapes Go.WideShapes Go.ChangeAt Go.RowKit
set_option linter.unusedVariables false


theorem take_rq (xs : List Value) (j : Nat) (a0 a1 a2 a3 : Value) (h : j + 4 ≤ xs.length) : (((((xs.set (j) a0).set (j + 1) a1).set (j + 2) a2).set (j + 3) a3)).take (j + 4) = xs.take j ++ [a0, a1, a2, a3] := by
  apply List.ext_getElem?
  intro i
  rw [List.getElem?_append, List.length_take, Nat.min_eq_left (by omega)]
  by_cases h1 : i < j
  · rw [if_pos h1, List.getElem?_take_of_lt (by omega), List.getElem?_set_ne (by omega), List.getElem?_set_ne (by omega), List.getElem?_set_ne (by omega), List.getElem?_set_ne (by omega), List.getElem?_take_of_lt h1]
  · rw [if_neg h1]
    by_cases h2 : i < j + 4
    · rw [List.getElem?_take_of_lt h2]
      rcases (show i = j ∨ i = j + 1 ∨ i = j + 2 ∨ i = j + 3 by omega) with rfl | rfl | rfl | rfl
      · rw [List.getElem?_set_ne (by omega), List.getElem?_set_ne (by omega), List.getElem?_set_ne (by omega), List.getElem?_set_self (by first | omega | (simp only [List.length_set]; omega))]; simp
      · rw [List.getElem?_set_ne (by omega), List.getElem?_set_ne (by omega), List.getElem?_set_self (by first | omega | (simp only [List.length_set]; omega))]; simp
      · rw [List.getElem?_set_ne (by omega), List.getElem?_set_self (by first | omega | (simp only [List.length_set]; omega))]; simp
      · rw [List.getElem?_set_self (by first | omega | (simp only [List.length_set]; omega))]; simp
    · rw [List.getElem?_eq_none (by simp; omega), List.getElem?_eq_none (by simp; omega)]
/-- A slice of n in the making: its cells. -/
def RowRq (w : World) (base g n : Nat) (xs : List Value) : Prop := w.ownsRow base 39 4 (.slice (some ⟨g, 0, none⟩) n n) n xs ∧ xs.length = n * 4
theorem RowRq.more {w w' : World} {base g n : Nat} {xs : List Value} (h : RowRq w base g n xs) (hb : Below w.heap.size w w') : RowRq w' base g n xs :=
  ⟨World.ownsRow.kept (row := none) h.1 ⟨hb.os, hb.tape, hb.output, hb.size, fun k hk _ => hb.block k hk⟩ (.inr (by simp [Value.ownBlock])), h.2⟩
theorem RowRq.store {w : World} {base g n : Nat} {xs : List Value} (h : RowRq w base g n xs) (j : Nat) (u : Value) : RowRq (w.setCell ⟨g, j, none⟩ u) base g n (xs.set j u) := ⟨(World.ownsRow.stored h.1 j u).1, by rw [List.length_set]; exact h.2⟩
theorem RowRq.cell {w : World} {base g n : Nat} {xs : List Value} (h : RowRq w base g n xs) (j : Nat) (hj : j < n * 4) : ∃ u, w.cell? ⟨g, j, none⟩ = some u :=
  ⟨xs[j]'(by rw [h.2]; exact hj), by rw [World.ownsRow.cellAt h.1 j hj]; exact List.getElem?_eq_getElem _⟩
theorem make_rqs (W : World) (n : Nat) (hn : n ≤ 1048576) : ∃ cs, (Instr.makeSlice 26 (.int .i64 (n : Int)) (.int .i64 (n : Int))).run Try.prog W = .ok (.slice (some ⟨W.heap.size, 0, none⟩) n n) (W.alloc (.cells cs 39)) ∧ RowRq (W.alloc (.cells cs 39)) W.heap.size W.heap.size n cs.toList := by
  obtain ⟨i, hi, hz0, hz1, hz2⟩ := info_parts info_rq
  have h := run_make (P := Try.prog) W 26 39 i (.agg #[.int .i64 0, .int .i64 0, .int .i64 0, .int .i64 0]) Try.underlying26 hi hz0 .i64 .i64 n n (by omega) (by omega) (by rw [hz2]; omega) (by omega)
  rw [hz1] at h
  refine ⟨_, by simpa using h, World.ownsRow_lit (base := W.heap.size) (e := 39) (size := 4) W _ n (Nat.le_refl _) (by unfold maxLen; omega) (by rw [size_madeCells]), by rw [Array.length_toList, size_madeCells]⟩

end Go.Proofs.Ytdfcamlnebcbpaa
