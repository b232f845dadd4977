/- What this text proves: the parts Row of the proof, each under its own words. -/
import Derived.Test.YtegahdlfjdjcaaaV04
/- What this text proves: a row of bytes that the call itself has made: what lies at a place, and what a store makes of it. -/
namespace Go.Proofs.Ytegahdlfjdjcaaa
open Go.ChangeShapes Go.WideShapes Go.ChangeAt Go.RowKit
set_option linter.unusedVariables false

/-- Block g holds the n bytes m. -/
def RowB (w : World) (base g n c : Nat) (m : List UInt8) : Prop := w.ownsRow base 5 1 (.slice (some ⟨g, 0, none⟩) n c) n (m.map cellB)
theorem RowB.len {w : World} {base g n c : Nat} {m : List UInt8} (h : RowB w base g n c m) : m.length = n := by have := h.1; simpa using this
theorem RowB.store {w : World} {base g n c : Nat} {m : List UInt8} (h : RowB w base g n c m) (j : Nat) (t : UInt8) : RowB (w.setCell ⟨g, j, none⟩ (.int .u8 (t.toNat : Int))) base g n c (m.set j t) := by
  have h2 := (World.ownsRow.stored h j (cellB t)).1
  unfold RowB
  rw [List.map_set]
  exact h2
theorem RowB.cell {w : World} {base g n c : Nat} {m : List UInt8} (h : RowB w base g n c m) (j : Nat) (hj : j < n) : w.cell? ⟨g, j, none⟩ = some (cellB (m[j]'(by rw [h.len]; exact hj))) := by
  rw [World.ownsRow.cellAt h j (by omega)]
  have := h.len
  simp [show j < m.length by omega]
theorem RowB.frozen {w : World} {base g n c : Nat} {m : List UInt8} (h : RowB w base g n c m) (j : Nat) : w.frozen? ⟨g, j, none⟩ = false := World.ownsRow.frozenAt h j
theorem RowB.own {w : World} {base g n c : Nat} {m : List UInt8} (h : RowB w base g n c m) : OwnB w base (.slice (some ⟨g, 0, none⟩) n c) m := by
  unfold OwnB
  rw [h.len]
  exact h

theorem make_full (W : World) (n : Nat) (hn : n ≤ 1099511627776) :
    (Instr.makeSlice 22 (.int .i64 (n : Int)) (.int .i64 (n : Int))).run Try.prog W = .ok (.slice (some ⟨W.heap.size, 0, none⟩) n n) (W.alloc (.cells (madeCells (Value.int .u8 0).cells n) 5)) := by
  obtain ⟨i, hi, hz0, hz1, hz2⟩ := info_parts info_u8
  have h := run_make (P := Try.prog) W 22 5 i (.int .u8 0) Try.underlying22 hi hz0 .i64 .i64 n n (by omega) (by omega) (by rw [hz2]; omega) (by omega)
  rw [hz1] at h
  simpa using h
theorem make_row (W : World) (n : Nat) (hn : n ≤ 1099511627776) : RowB (W.alloc (.cells (madeCells (Value.int .u8 0).cells n) 5)) W.heap.size W.heap.size n n (List.replicate n 0) := by
  have h := World.ownsRow_lit (base := W.heap.size) (e := 5) (size := 1) W (madeCells (Value.int .u8 0).cells n) n (Nat.le_refl _) (by unfold maxLen; omega) (by rw [size_madeCells]; omega)
  have e : (madeCells (Value.int .u8 0).cells n).toList = (List.replicate n (0 : UInt8)).map cellB := by
    rw [show (Value.int .u8 0).cells = #[Value.int .u8 0] from rfl, toList_madeCells_one, List.map_replicate]
    rfl
  rw [e] at h
  exact h
end Go.Proofs.Ytegahdlfjdjcaaa
