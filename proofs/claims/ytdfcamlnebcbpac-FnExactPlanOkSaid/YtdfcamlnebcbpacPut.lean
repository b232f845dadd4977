/- What this text proves: the contract of PutWord. -/
import Derived.Test.YtdfcamlnebcbpacBytes
import Derived.LoopTactic
import Derived.IntWalk
import Derived.Outline
import Derived.Laws.AppendOwn
import Derived.WalkLawsBesides
import Derived.WalkSpells
import Derived.Lib.SliceRun
import Derived.Stop.BytesEq
import Derived.Laws.IdiomStrings
namespace Go.Proofs.Ytdfcamlnebcbpac
open Go.ChangeShapes Go.WideShapes Go.ChangeAt Go.RowKit
set_option linter.unusedVariables false

/-- Byte j of a number, from below. -/
def byteN (n j : Nat) : UInt8 := UInt8.ofNat (n / 256 ^ j)
theorem byteN_val (n j : Nat) : (byteN n j).toNat = n / 256 ^ j % 256 := by unfold byteN; simp [UInt8.toNat_ofNat']

theorem zero_u8 (w : World) : (zeroValue 5).run Try.prog w = .ok (.int .u8 0) w := by kernel_rfl
theorem size_u8 (w : World) : (sizeOf 5).run Try.prog w = .ok 1 w := by kernel_rfl
theorem conv_new (w : World) (c : Array Value) (T : TypeId) (o : Obj) (off : Nat) (l : List UInt8) (cap : Nat) (hc : ∀ j (hj : j < l.length), c[off + j]? = some (.int .u8 (l[j].toNat : Int))) :
    (convert 170 9 (.slice (some ⟨w.heap.size, off, none⟩) l.length cap)).run Try.prog ((w.alloc (.cells c T)).alloc o) = .ok (.string ⟨l.toArray⟩) ((w.alloc (.cells c T)).alloc o) :=
  run_convert_bytes_back _ 170 9 5 ⟨w.heap.size, off, none⟩ cap l Try.underlying170 Try.underlying5 Try.underlying9 fun j hj => by
    rw [show (⟨w.heap.size, off, none⟩ : Addr).add j = ⟨w.heap.size, off + j, none⟩ from by unfold Addr.add; split <;> simp_all]
    rw [World.cell?_alloc_past _ _ _ (by simp), World.cell?_alloc_at _ _ _ _ rfl]
    exact hc j hj

/-- The k lowest bytes of a number, the highest first. -/
def putB (n : Nat) : Nat → List UInt8
  | 0 => []
  | k + 1 => byteN n k :: putB n k

end Go.Proofs.Ytdfcamlnebcbpac
