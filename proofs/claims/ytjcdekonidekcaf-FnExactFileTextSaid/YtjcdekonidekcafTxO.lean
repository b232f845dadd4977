/- What this text proves: a list of texts that is handed to a law, opened: it is there to be read. -/
import Derived.Test.YtjcdekonidekcafTxS
import Derived.OpenShut
import Derived.SliceStrings
import Derived.Lib.SmallJoins
namespace Go.Proofs.Ytjcdekonidekcaf
open Go.ChangeShapes Go.WideShapes Go.ChangeAt Go.RowKit Go.Joins
set_option linter.unusedVariables false
theorem cells_str : Try.prog.cellsOf 9 = 1 := by kernel_rfl
theorem lt_of_cellX {W : World} {p : Addr} {v : Value} (h : W.cell? p = some v) : p.block < W.heap.size := by
  rcases Nat.lt_or_ge p.block W.heap.size with h1 | h1
  · exact h1
  · simp [World.cell?, Array.getElem?_eq_none h1] at h
section
variable {H : Type} {enc : TypeId × Value → H} {W : World} {base : Nat}
theorem open_texts {n : Nat} {v : Value} {y : DataW H × List MemPlace} (h : DataW.trod enc Try.prog W 0 (fun _ => true) true n 22 [v] = some y) :
    ∃ A l k, v = .slice A (List.length (α := ByteArray) l) k ∧ l.length ≤ maxLen ∧ (∀ j (hj : j < l.length), l[j].size ≤ maxLen) ∧ LsI 1 W W.heap.size A (l.map txC) := by
  rcases open_strings Try.underlying22 Try.underlying9 cells_str h with ⟨hcs, _⟩ | ⟨a, len, cap, zs, hcs, _, hl, hm, hz, _, hcell, hw⟩
  · simp at hcs
    exact ⟨none, [], 0, hcs, Nat.zero_le _, (fun j hj => absurd hj (Nat.not_lt_zero _)), .inl rfl⟩
  · simp at hcs
    simp only [if_true] at hz
    have hzl : (zs.take len).length = len := by rw [List.length_take]; omega
    refine ⟨some a, zs.take len, cap, by rw [hcs, hzl], by omega, fun j hj => ?_, ?_⟩
    · rw [List.getElem_take]
      exact hw _ (List.getElem_mem _)
    · rcases Nat.eq_zero_or_pos len with h0 | h0
      · exact .inl (by rw [List.length_map, hzl]; exact h0)
      · obtain ⟨b, off, spot⟩ := a
        have hspot : spot = none := by simpa [Addr.add] using World.cell?_spot (hcell 0 (by omega))
        subst hspot
        have hadd : ∀ i, (⟨b, off, none⟩ : Addr).add i = ⟨b, off + i, none⟩ := fun i => by unfold Addr.add; split <;> simp_all
        refine .inr ⟨b, off, rfl, ?_, fun k hk j hj => ?_⟩
        · have h := lt_of_cellX (hcell 0 (by omega))
          rw [hadd] at h
          exact h
        · obtain rfl : j = 0 := by omega
          rw [List.length_map, hzl] at hk
          have h := hcell k (by omega)
          rw [hadd] at h
          simp only [List.getElem_map, Nat.mul_one, Nat.add_zero]
          rw [h]
          simp [List.getD_eq_getElem?_getD, show k < zs.length by omega]
end
end Go.Proofs.Ytjcdekonidekcaf
