/- What this text proves: lists of slots somewhere in a block of the call's own: their cells; the laws' own comparison finds equal ones equal. -/
import Derived.Test.YtdfcamlnebcbpaaLs
import Derived.Test.YtdfcamlnebcbpaaEl8
import Derived.Laws.Concat
import Derived.Deep.RegionLaw
import Derived.Deep.LoopGhost
import Derived.BigRegion
import Derived.Outline
namespace Go.Proofs.Ytdfcamlnebcbpaa
open Go.ChangeShapes Go.WideShapes Go.ChangeAt Go.RowKit
set_option linter.unusedVariables false


abbrev Sl := Int × Int
abbrev slC (p : Sl) : List Value := [.int .i64 p.1, .int .i64 p.2]
abbrev OwnSl (w : World) (base : Nat) (v : Value) (l : List Sl) : Prop := LsO 2 w base v (l.map slC)
theorem info_sl : (Try.prog.info? 41).map (fun i => (i.zero, i.size, i.bytes)) = some (some (.agg #[.int .i64 0, .int .i64 0]), 2, 16) := by kernel_rfl
theorem sl_len (l : List Sl) : ∀ x ∈ l.map slC, x.length = 2 := fun x hx => by obtain ⟨q, _, rfl⟩ := List.mem_map.1 hx; rfl
theorem sl_one (l : List Sl) : ∀ x ∈ l.map slC, ∀ u ∈ x, u.oneCell' = true := fun x hx u hu => by
  obtain ⟨q, _, rfl⟩ := List.mem_map.1 hx
  simp only [slC, List.mem_cons, List.not_mem_nil, or_false] at hu
  rcases hu with rfl | rfl <;> rfl
theorem slCells {w : World} {base g off N c : Nat} {l : List Sl} (h : OwnSl w base (.slice (some ⟨g, off, none⟩) N c) l) (k : Nat) (hk : k < l.length) : w.cell? ⟨g, off + k * 2, none⟩ = some (.int .i64 l[k].1) ∧ w.cell? ⟨g, off + k * 2 + 1, none⟩ = some (.int .i64 l[k].2) := by
  have hc := (h.at rfl (by rw [List.length_map]; omega)).1
  have h0 := hc k (by rw [List.length_map]; exact hk) 0 (by decide)
  have h1 := hc k (by rw [List.length_map]; exact hk) 1 (by decide)
  simp only [List.getElem_map] at h0 h1
  exact ⟨h0, h1⟩
theorem slCellsI {w : World} {B b off : Nat} {A : Option Addr} {l : List Sl} (h : LsI 2 w B A (l.map slC)) (h0 : 0 < l.length) : ∃ b off, A = some ⟨b, off, none⟩ ∧ b < B ∧ ∀ k (hk : k < l.length), w.cell? ⟨b, off + k * 2, none⟩ = some (.int .i64 l[k].1) ∧ w.cell? ⟨b, off + k * 2 + 1, none⟩ = some (.int .i64 l[k].2) := by
  rcases h with h | ⟨b, off, hA, hb, hc⟩
  · rw [List.length_map] at h; omega
  · refine ⟨b, off, hA, hb, fun k hk => ?_⟩
    have h0 := hc k (by rw [List.length_map]; exact hk) 0 (by decide)
    have h1 := hc k (by rw [List.length_map]; exact hk) 1 (by decide)
    simp only [List.getElem_map] at h0 h1
    exact ⟨h0, h1⟩
theorem OwnSl.nform {w : World} {base : Nat} {v : Value} {l : List Sl} (h : OwnSl w base v l) : ∃ A c, v = .slice A l.length c := by
  obtain ⟨A, c, h1⟩ := LsO.form h
  exact ⟨A, c, by rw [h1, List.length_map]⟩

end Go.Proofs.Ytdfcamlnebcbpaa
