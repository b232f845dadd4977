/- What this text proves: a slice of bytes that is made empty, with room for some. -/
import Derived.Test.YtdponcannphboabDoorBuf
namespace Go.Proofs.YtdponcannphboabDoor
open Go.ChangeShapes Go.WideShapes Go.ChangeAt Go.RowKit
set_option linter.unusedVariables false

def roomB (n : Nat) : Array Value := madeCells (Value.int .u8 0).cells n
theorem roomB_size (n : Nat) : (roomB n).size = n := by
  exact size_madeCells _ _
theorem make_room (W : World) (n : Nat) (hn : n ≤ 1099511627776) :
    (Instr.makeSlice 26 (.int .i64 0) (.int .i64 (n : Int))).run Tryd.prog W = .ok (.slice (some ⟨W.heap.size, 0, none⟩) 0 n) (W.alloc (.cells (roomB n) 5)) := by
  obtain ⟨i, hi, hz0, hz1, hz2⟩ := info_parts info_u8
  have h := run_make (P := Tryd.prog) W 26 5 i (.int .u8 0) Tryd.underlying26 hi hz0 .i64 .i64 0 n (by omega) (by omega) (by rw [hz2]; omega) (by omega)
  rw [hz1] at h
  simpa [roomB] using h
end Go.Proofs.YtdponcannphboabDoor
