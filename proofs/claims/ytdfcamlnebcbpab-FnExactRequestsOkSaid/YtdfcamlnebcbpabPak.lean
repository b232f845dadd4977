/- What this text proves: the contracts of the laws' own functions over packers: their sizes, copies, comparisons and marks. -/
import Derived.Test.YtdfcamlnebcbpabBox
import Derived.Test.YtdfcamlnebcbpabMarkI
import Derived.Laws.MakeOwn
import Derived.Deep.LoopGhost
namespace Go.Proofs.Ytdfcamlnebcbpab
open Go.ChangeShapes Go.WideShapes Go.ChangeAt Go.RowKit
set_option linter.unusedVariables false

/-- A packer as a value; v: the slice of its Starts. -/
abbrev paV (c n : Int) (r : ByteArray) (v : Value) : Value := .agg #[.int .i64 c, .int .i64 n, .string r, v]
abbrev paL (c n : Int) (r : ByteArray) (v : Value) : List Value := [.int .i64 c, .int .i64 n, .string r, v]

/-- Numbers that are there to be read: the argument of a law. -/
def IntsAt (w : World) (B : Nat) (A : Option Addr) (l : List Int) : Prop :=
  l.length = 0 ∨ ∃ b off, A = some ⟨b, off, none⟩ ∧ b < B ∧ ∀ j (hj : j < l.length), w.cell? ⟨b, off + j, none⟩ = some (.int .i64 l[j])
theorem IntsAt.more {w w' : World} {B : Nat} {A : Option Addr} {l : List Int} (h : IntsAt w B A l) (hb : Below B w w') : IntsAt w' B A l := by
  rcases h with h | ⟨b, off, hA, hlt, hc⟩
  · exact .inl h
  · exact .inr ⟨b, off, hA, hlt, fun j hj => (hb.cell (p := ⟨b, off + j, none⟩) hlt).trans (hc j hj)⟩

theorem make_fullI (W : World) (n : Nat) (hn : n ≤ 1099511627776) :
    (Instr.makeSlice 57 (.int .i64 (n : Int)) (.int .i64 (n : Int))).run Try.prog W = .ok (.slice (some ⟨W.heap.size, 0, none⟩) n n) (W.alloc (.cells (madeCells (Value.int .i64 0).cells n) 3)) := by
  obtain ⟨i, hi, hz0, hz1, hz2⟩ := info_parts info_int
  have h := run_make (P := Try.prog) W 57 3 i (.int .i64 0) Try.underlying57 hi hz0 .i64 .i64 n n (by omega) (by omega) (by rw [hz2]; omega) (by omega)
  rw [hz1] at h
  simpa using h
theorem make_rowI (W : World) (n : Nat) (hn : n ≤ 1099511627776) : RowI (W.alloc (.cells (madeCells (Value.int .i64 0).cells n) 3)) W.heap.size W.heap.size n n (List.replicate n 0) := by
  have h := World.ownsRow_lit (base := W.heap.size) (e := 3) (size := 1) W (madeCells (Value.int .i64 0).cells n) n (Nat.le_refl _) (by unfold maxLen; omega) (by rw [size_madeCells]; omega)
  have e : (madeCells (Value.int .i64 0).cells n).toList = (List.replicate n (0 : Int)).map (Value.int .i64) := by
    rw [show (Value.int .i64 0).cells = #[Value.int .i64 0] from rfl, toList_madeCells_one, List.map_replicate]
  rw [e] at h
  exact h
theorem RowI.own {w : World} {base g n c : Nat} {m : List Int} (h : RowI w base g n c m) : OwnI w base (.slice (some ⟨g, 0, none⟩) n c) m := by
  unfold OwnI
  rw [h.len]
  exact h

end Go.Proofs.Ytdfcamlnebcbpab
