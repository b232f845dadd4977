/- What this text proves: the four bytes of the mark that stands ahead of each block. -/
import Derived.Lib.Strings
namespace Go.Proofs.YtdponcannphboabDoor
open Go
def markT : ByteArray := ⟨#[26, 207, 252, 29]⟩
theorem mark_list : markT.toList = [26, 207, 252, 29] := by rw [Lib.toList_data]; rfl
end Go.Proofs.YtdponcannphboabDoor
