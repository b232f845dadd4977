/- What this text proves: the contracts of the laws' own functions over lists of numbers: two lists that hold the same numbers are found equal; marks that were written are found again. -/
import Derived.Test.YtdfcamlnebcbpabBufI
import Derived.Laws.Concat
import Derived.BigQuiet
import Derived.Deep.QuietTactic
import Derived.Deep.RegionLaw
import Derived.BigRegion
import Derived.Outline
namespace Go.Proofs.Ytdfcamlnebcbpab
open Go.ChangeShapes Go.WideShapes Go.ChangeAt Go.RowKit
set_option linter.unusedVariables false

theorem OwnI.rows {w : World} {base : Nat} {v : Value} {l : List Int} (h : OwnI w base v l) (hn : 0 < l.length) :
    ∃ g cap, v = .slice (some ⟨g, 0, none⟩) l.length cap ∧ base ≤ g ∧ g < w.heap.size ∧ (∀ j (hj : j < l.length), w.cell? ⟨g, j, none⟩ = some (.int .i64 l[j])) ∧ (∀ j, w.frozen? ⟨g, j, none⟩ = false) := by
  rcases h.2 with ⟨_, h0⟩ | ⟨g, cap, cur, hv, hb, hh, h1, h2, h3, h4⟩
  · omega
  · have hg : g < w.heap.size := by
      rcases Nat.lt_or_ge g w.heap.size with h5 | h5
      · exact h5
      · rw [Array.getElem?_eq_none h5] at hh; cases hh
    subst hv
    refine ⟨g, cap, rfl, hb, hg, fun j hj => ?_, fun j => ?_⟩
    · have hc := World.ownsRow.cellAt h j (by omega)
      rw [hc]
      simp [hj]
    · exact World.ownsRow.frozenAt h j

/-- The marks from k on. -/
def marksI (k : Nat) : Nat → List Int
  | 0 => []
  | n + 1 => marksI k n ++ [((k + n : Nat) : Int)]
theorem marksI_len (k n : Nat) : (marksI k n).length = n := by
  induction n with
  | zero => rfl
  | succ n ih => simp [marksI, ih]
theorem marksI_at (k n j : Nat) (hj : j < (marksI k n).length) : (marksI k n)[j] = ((k + j : Nat) : Int) := by
  induction n with
  | zero => simp [marksI] at hj
  | succ n ih =>
    simp only [marksI]
    rcases Nat.lt_or_ge j (marksI k n).length with h | h
    · rw [List.getElem_append_left h]
      exact ih h
    · have hl := marksI_len k n
      have hl2 := marksI_len k (n + 1)
      obtain rfl : j = n := by omega
      rw [List.getElem_append_right h]
      simp

/-- Block g holds the n numbers m. -/
def RowI (w : World) (base g n c : Nat) (m : List Int) : Prop := w.ownsRow base 3 1 (.slice (some ⟨g, 0, none⟩) n c) n (m.map (Value.int .i64))
theorem RowI.len {w : World} {base g n c : Nat} {m : List Int} (h : RowI w base g n c m) : m.length = n := by have := h.1; simpa using this
theorem RowI.store {w : World} {base g n c : Nat} {m : List Int} (h : RowI w base g n c m) (j : Nat) (t : Int) : RowI (w.setCell ⟨g, j, none⟩ (.int .i64 t)) base g n c (m.set j t) := by
  have h2 := (World.ownsRow.stored h j (.int .i64 t)).1
  unfold RowI
  rw [List.map_set]
  exact h2
theorem RowI.cell {w : World} {base g n c : Nat} {m : List Int} (h : RowI w base g n c m) (j : Nat) (hj : j < n) : w.cell? ⟨g, j, none⟩ = some (.int .i64 (m[j]'(by rw [h.len]; exact hj))) := by
  rw [World.ownsRow.cellAt h j (by omega)]
  have := h.len
  simp [show j < m.length by omega]
theorem RowI.frozen {w : World} {base g n c : Nat} {m : List Int} (h : RowI w base g n c m) (j : Nat) : w.frozen? ⟨g, j, none⟩ = false := World.ownsRow.frozenAt h j

end Go.Proofs.Ytdfcamlnebcbpab
