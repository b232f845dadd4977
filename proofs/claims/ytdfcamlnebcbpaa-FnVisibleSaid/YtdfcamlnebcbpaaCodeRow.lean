/- What this text proves: bytes that are handed to a law are there to be read, one by one. -/
import Derived.Test.YtdfcamlnebcbpaaCode
import Derived.ChangeSlices
namespace Go.Proofs.Ytdfcamlnebcbpaa
open Go.ChangeShapes Go.WideShapes Go.ChangeAt Go.RowKit

theorem cell_lt {W : World} {p : Addr} {v : Value} (h : W.cell? p = some v) : p.block < W.heap.size := by
  rcases Nat.lt_or_ge p.block W.heap.size with h1 | h1
  · exact h1
  · simp [World.cell?, Array.getElem?_eq_none h1] at h

theorem code_of_cells {W : World} {a : Addr} {len cap : Nat} {zs : List Int} (hl : len ≤ cap) (hz : zs.length = cap)
    (hcell : ∀ i, i < zs.length → W.cell? (a.add i) = some (.int .u8 (zs.getD i 0))) (hw : ∀ n ∈ zs, (Lit.int .u8 n).wf = true) : CodeOk W W.heap.size (some a) len := by
  rcases Nat.eq_zero_or_pos len with h0 | h0
  · exact .inl h0
  · obtain ⟨b, off, spot⟩ := a
    have hspot : spot = none := by simpa [Addr.add] using World.cell?_spot (hcell 0 (by omega))
    subst hspot
    have hadd : ∀ i, (⟨b, off, none⟩ : Addr).add i = ⟨b, off + i, none⟩ := fun i => by unfold Addr.add; split <;> simp_all
    refine .inr ⟨b, off, rfl, ?_, fun j hj => ?_⟩
    · have h := cell_lt (hcell 0 (by omega))
      rw [hadd] at h
      exact h
    · have hr := range_u8 hw j
      have h := hcell j (by omega)
      rw [hadd] at h
      refine ⟨(zs.getD j 0).toNat, ?_, ?_⟩
      · rw [List.getD_eq_getElem?_getD]; omega
      · rw [h, Int.toNat_of_nonneg (by rw [List.getD_eq_getElem?_getD]; omega)]
end Go.Proofs.Ytdfcamlnebcbpaa
