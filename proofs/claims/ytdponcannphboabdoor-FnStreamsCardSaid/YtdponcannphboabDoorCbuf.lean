/- What this text proves: the bytes that a conversion of a string has made: what lies at a place, what a store makes of it, what string is made of it. -/
import Derived.Test.YtdponcannphboabDoorBuf
import Derived.Lib.ConvBytes
namespace Go.Proofs.YtdponcannphboabDoor
open Go.ChangeShapes Go.WideShapes Go.ChangeAt Go.RowKit
set_option linter.unusedVariables false

/-- Block g begins with the bytes m, none of them behind the mark of a conversion. -/
def RowC (w : World) (g : Nat) (m : List UInt8) : Prop := ∃ (cs : Array Value) (f : Nat × Nat), w.heap[g]? = some (.cells cs 5 f) ∧ m.length ≤ f.1 ∧ ∀ j (hj : j < m.length), cs[j]? = some (cellB m[j])
theorem RowC.cell {w : World} {g : Nat} {m : List UInt8} (h : RowC w g m) (j : Nat) (hj : j < m.length) : w.cell? ⟨g, j, none⟩ = some (cellB m[j]) := by
  obtain ⟨cs, f, hg, _, hc⟩ := h
  rw [World.cell?]
  simp only [hg]
  exact hc j hj
theorem RowC.frozen {w : World} {g : Nat} {m : List UInt8} (h : RowC w g m) (j : Nat) (hj : j < m.length) : w.frozen? ⟨g, j, none⟩ = false := by
  obtain ⟨cs, f, hg, hf, hc⟩ := h
  simp [World.frozen?, hg]
  omega
theorem RowC.store {w : World} {g : Nat} {m : List UInt8} (h : RowC w g m) (j : Nat) (t : UInt8) : RowC (w.setCell ⟨g, j, none⟩ (.int .u8 (t.toNat : Int))) g (m.set j t) := by
  obtain ⟨cs, f, hg, hf, hc⟩ := h
  refine ⟨cs.setIfInBounds j (.int .u8 (t.toNat : Int)), f, by simp [World.setCell, Array.getElem?_modify, hg], by simpa using hf, fun i hi => ?_⟩
  have hi' : i < m.length := by simpa using hi
  have h2 := hc i hi'
  by_cases e : j = i
  · subst e
    have hlt : j < cs.size := (Array.getElem?_eq_some_iff.1 h2).1
    simp [hlt, cellB]
  · rw [Array.getElem?_setIfInBounds_ne e, h2, List.getElem_set_ne e]
theorem RowC.drew {w : World} {g : Nat} {m : List UInt8} (h : RowC w g m) : RowC w.drew g m := h
theorem RowC.same {w : World} {g : Nat} {m m' : List UInt8} (h : RowC w g m) (e : m = m') : RowC w g m' := e ▸ h
theorem RowC.conv {w : World} {g n cap : Nat} {m : List UInt8} (h : RowC w g m) (hn : m.length = n) : (convert 26 9 (.slice (some ⟨g, 0, none⟩) n cap)).run Tryd.prog w = .ok (.string ⟨m.toArray⟩) w := by
  subst hn
  refine run_convert_bytes_back w 26 9 5 ⟨g, 0, none⟩ cap m Tryd.underlying26 Tryd.underlying5 Tryd.underlying9 fun j hj => ?_
  rw [show (⟨g, 0, none⟩ : Addr).add j = ⟨g, j, none⟩ from by unfold Addr.add; split <;> simp_all]
  exact h.cell j hj
theorem conv_new (s : ByteArray) : ∃ (cap : World → Nat) (w1 : World → World), ∀ w,
    (convert 9 26 (.string s)).run Tryd.prog w = .ok (.slice (some ⟨w.heap.size, 0, none⟩) s.size (cap w)) (w1 w) ∧ Below w.heap.size w (w1 w) ∧ RowC (w1 w) w.heap.size s.data.toList := by
  refine ⟨_, _, fun w => ⟨Lib.run_convert_string_bytes w 9 26 5 s Tryd.underlying9 Tryd.underlying26 Tryd.underlying5, ⟨?_, ?_, ?_, ?_, ?_⟩, ?_⟩⟩
  · rfl
  · rfl
  · rfl
  · rw [Lib.bytesWorld_size]; omega
  · intro k hk
    exact Lib.bytesWorld_at_old w _ s k hk
  · refine ⟨_, _, Lib.bytesWorld_at_new w _ s, by simp [Lib.bytesCells], fun j hj => ?_⟩
    have hj' : j < s.size := by simpa using hj
    have h := Lib.bytesWorld_cell w 5 s j hj'
    rw [World.cell?] at h
    rw [Lib.bytesWorld_at_new] at h
    rw [List.getD_eq_getElem?_getD, List.getElem?_eq_getElem hj] at h
    simpa [cellB] using h
end Go.Proofs.YtdponcannphboabDoor
