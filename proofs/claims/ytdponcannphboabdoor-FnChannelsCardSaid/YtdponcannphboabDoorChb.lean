/- What this text proves: a channel in a block of its own: what lies there stays, whatever else is made; another channel is stored there. -/
import Derived.Test.YtdponcannphboabDoorChan
namespace Go.Proofs.YtdponcannphboabDoor
open Go.ChangeShapes Go.WideShapes Go.ChangeAt Go.RowKit
set_option linter.unusedVariables false

structure ChB (W : World) (g : Nat) (a b c : Int) : Prop where
  lt : g < W.heap.size
  box : BoxC W g a b c
  ice : ∀ j, W.frozen? ⟨g, j, none⟩ = false
theorem ChB.more {W W' : World} {g : Nat} {a b c : Int} (h : ChB W g a b c) (hb : Below W.heap.size W W') : ChB W' g a b c :=
  ⟨Nat.lt_of_lt_of_le h.lt hb.size, h.box.more hb h.lt, fun j => (hb.frozen (p := ⟨g, j, none⟩) h.lt).trans (h.ice j)⟩
theorem ChB.alloc {W : World} {g : Nat} {a b c : Int} (h : ChB W g a b c) (o : Obj) : ChB (W.alloc o) g a b c := h.more ((Below.refl _ _).alloc (Nat.le_refl _) o)
theorem ChB.drew {W : World} {g : Nat} {a b c : Int} (h : ChB W g a b c) : ChB W.drew g a b c := h.more (Below.refl _ _).drew
theorem ChB.made (w : World) (a b c : Int) (T : TypeId) : ChB (w.alloc (.cells #[.int .i64 a, .int .i64 b, .int .i64 c] T)) w.heap.size a b c :=
  ⟨by simp, BoxC.made w a b c T, fun j => World.frozen?_alloc_at _ _ _ _ rfl⟩
theorem ChB.set {W : World} {g : Nat} {a b c : Int} (h : ChB W g a b c) (x y z : Int) : ChB (((W.setCell ⟨g, 0, none⟩ (.int .i64 x)).setCell ⟨g, 1, none⟩ (.int .i64 y)).setCell ⟨g, 2, none⟩ (.int .i64 z)) g x y z := by
  refine ⟨by simpa using h.lt, ⟨?_, ?_, ?_⟩, fun j => ?_⟩
  · rw [World.cell?_setCell_other _ _ _ _ (by simp), World.cell?_setCell_other _ _ _ _ (by simp)]
    exact World.cell?_setCell_same _ _ _ h.box.1
  · rw [World.cell?_setCell_other _ _ _ _ (by simp)]
    exact World.cell?_setCell_same _ _ _ (by rw [World.cell?_setCell_other _ _ _ _ (by simp)]; exact h.box.2.1)
  · exact World.cell?_setCell_same _ _ _ (by rw [World.cell?_setCell_other _ _ _ _ (by simp), World.cell?_setCell_other _ _ _ _ (by simp)]; exact h.box.2.2)
  · rw [World.frozen?_setCell, World.frozen?_setCell, World.frozen?_setCell]
    exact h.ice j
theorem ChB.other {W : World} {g ga : Nat} {a b c : Int} (h : ChB W g a b c) (hne : ga ≠ g) (x y z : Value) : ChB (((W.setCell ⟨ga, 0, none⟩ x).setCell ⟨ga, 1, none⟩ y).setCell ⟨ga, 2, none⟩ z) g a b c := by
  refine ⟨by simpa using h.lt, ⟨?_, ?_, ?_⟩, fun j => ?_⟩
  · rw [World.cell?_setCell_other _ _ _ _ (fun e => hne (congrArg Addr.block e)), World.cell?_setCell_other _ _ _ _ (fun e => hne (congrArg Addr.block e)), World.cell?_setCell_other _ _ _ _ (fun e => hne (congrArg Addr.block e))]
    exact h.box.1
  · rw [World.cell?_setCell_other _ _ _ _ (fun e => hne (congrArg Addr.block e)), World.cell?_setCell_other _ _ _ _ (fun e => hne (congrArg Addr.block e)), World.cell?_setCell_other _ _ _ _ (fun e => hne (congrArg Addr.block e))]
    exact h.box.2.1
  · rw [World.cell?_setCell_other _ _ _ _ (fun e => hne (congrArg Addr.block e)), World.cell?_setCell_other _ _ _ _ (fun e => hne (congrArg Addr.block e)), World.cell?_setCell_other _ _ _ _ (fun e => hne (congrArg Addr.block e))]
    exact h.box.2.2
  · rw [World.frozen?_setCell, World.frozen?_setCell, World.frozen?_setCell]
    exact h.ice j
theorem below_set3 {B : Nat} {w W : World} (h : Below B w W) {ga : Nat} (hg : B ≤ ga) (x y z : Value) : Below B w (((W.setCell ⟨ga, 0, none⟩ x).setCell ⟨ga, 1, none⟩ y).setCell ⟨ga, 2, none⟩ z) :=
  ((h.setCell (p := ⟨ga, 0, none⟩) hg x).setCell (p := ⟨ga, 1, none⟩) hg y).setCell (p := ⟨ga, 2, none⟩) hg z
end Go.Proofs.YtdponcannphboabDoor
