/- What this text proves: a packer that is handed to a law, opened: its numbers, its Rest, and its Starts, which are there to be read. -/
import Derived.Test.YtdfcamlnebcbpacAgain
import Derived.Test.YtdfcamlnebcbpacPak
import Derived.Lib.SmallJoins
import Derived.ChangeSlices
namespace Go.Proofs.Ytdfcamlnebcbpac
open Go.ChangeShapes Go.WideShapes Go.ChangeAt Go.RowKit Go.Joins
set_option linter.unusedVariables false

theorem cells_int : Try.prog.cellsOf 3 = 1 := by kernel_rfl
theorem lt_of_cell {W : World} {p : Addr} {v : Value} (h : W.cell? p = some v) : p.block < W.heap.size := by
  rcases Nat.lt_or_ge p.block W.heap.size with h1 | h1
  · exact h1
  · simp [World.cell?, Array.getElem?_eq_none h1] at h
theorem ints_of_cells {W : World} {a : Addr} {len cap : Nat} {zs : List Int} (hl : len ≤ cap) (hz : zs.length = cap)
    (hcell : ∀ i, i < zs.length → W.cell? (a.add i) = some (.int .i64 (zs.getD i 0))) : IntsAt W W.heap.size (some a) (zs.take len) := by
  rcases Nat.eq_zero_or_pos len with h0 | h0
  · exact .inl (by rw [h0]; rfl)
  · obtain ⟨b, off, spot⟩ := a
    have hspot : spot = none := by simpa [Addr.add] using World.cell?_spot (hcell 0 (by omega))
    subst hspot
    have hadd : ∀ i, (⟨b, off, none⟩ : Addr).add i = ⟨b, off + i, none⟩ := fun i => by unfold Addr.add; split <;> simp_all
    refine .inr ⟨b, off, rfl, ?_, fun j hj => ?_⟩
    · have h := lt_of_cell (hcell 0 (by omega))
      rw [hadd] at h
      exact h
    · rw [List.length_take] at hj
      have h := hcell j (by omega)
      rw [hadd] at h
      rw [h]
      simp [List.getD_eq_getElem?_getD, show j < zs.length by omega]
section
variable {H : Type} {enc : TypeId × Value → H} {W : World} {base : Nat}
theorem open_starts {n : Nat} {v : Value} {y : DataW H × List MemPlace} (h : DataW.trod enc Try.prog W 0 (fun _ => true) true n 38 [v] = some y) :
    ∃ A l k, v = .slice A (List.length (α := Int) l) k ∧ l.length ≤ maxLen ∧ IntsAt W W.heap.size A l := by
  rcases open_ints Try.underlying38 Try.underlying3 cells_int h with ⟨hcs, _⟩ | ⟨a, len, cap, zs, hcs, _, hl, hm, hz, _, hcell, _⟩
  · simp at hcs
    exact ⟨none, [], 0, hcs, Nat.zero_le _, .inl rfl⟩
  · simp at hcs
    simp only [if_true] at hz
    refine ⟨some a, zs.take len, cap, ?_, ?_, ints_of_cells hl hz hcell⟩
    · rw [hcs, List.length_take, Nat.min_eq_left (by omega)]
    · rw [List.length_take]; omega
end
end Go.Proofs.Ytdfcamlnebcbpac
