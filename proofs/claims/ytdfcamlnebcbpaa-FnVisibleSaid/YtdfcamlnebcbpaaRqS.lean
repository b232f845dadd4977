/- What this text proves: lists of requests somewhere in a block of the call's own: their cells; the laws' own comparison finds equal ones equal. -/
import Derived.Test.YtdfcamlnebcbpaaLs
import Derived.Test.YtdfcamlnebcbpaaEl8
import Derived.Laws.Concat
import Derived.Deep.RegionLaw
import Derived.Deep.LoopGhost
import Derived.BigRegion
import Derived.Outline
namespace Go.Proofs.Ytdfcamlnebcbpaa
open Go.ChangeShapes Go.WideShapes Go.ChangeAt Go.RowKit
set_option linter.unusedVariables false


abbrev Rq := Int × Int × Int × Int
abbrev rqC (p : Rq) : List Value := [.int .i64 p.1, .int .i64 p.2.1, .int .i64 p.2.2.1, .int .i64 p.2.2.2]
abbrev OwnRq (w : World) (base : Nat) (v : Value) (l : List Rq) : Prop := LsO 4 w base v (l.map rqC)
theorem info_rq : (Try.prog.info? 39).map (fun i => (i.zero, i.size, i.bytes)) = some (some (.agg #[.int .i64 0, .int .i64 0, .int .i64 0, .int .i64 0]), 4, 32) := by kernel_rfl
theorem rq_len (l : List Rq) : ∀ x ∈ l.map rqC, x.length = 4 := fun x hx => by obtain ⟨q, _, rfl⟩ := List.mem_map.1 hx; rfl
theorem rq_one (l : List Rq) : ∀ x ∈ l.map rqC, ∀ u ∈ x, u.oneCell' = true := fun x hx u hu => by
  obtain ⟨q, _, rfl⟩ := List.mem_map.1 hx
  simp only [rqC, List.mem_cons, List.not_mem_nil, or_false] at hu
  rcases hu with rfl | rfl | rfl | rfl <;> rfl
theorem rqCells {w : World} {base g off N c : Nat} {l : List Rq} (h : OwnRq w base (.slice (some ⟨g, off, none⟩) N c) l) (k : Nat) (hk : k < l.length) : w.cell? ⟨g, off + k * 4, none⟩ = some (.int .i64 l[k].1) ∧ w.cell? ⟨g, off + k * 4 + 1, none⟩ = some (.int .i64 l[k].2.1) ∧ w.cell? ⟨g, off + k * 4 + 2, none⟩ = some (.int .i64 l[k].2.2.1) ∧ w.cell? ⟨g, off + k * 4 + 3, none⟩ = some (.int .i64 l[k].2.2.2) := by
  have hc := (h.at rfl (by rw [List.length_map]; omega)).1
  have h0 := hc k (by rw [List.length_map]; exact hk) 0 (by decide)
  have h1 := hc k (by rw [List.length_map]; exact hk) 1 (by decide)
  have h2 := hc k (by rw [List.length_map]; exact hk) 2 (by decide)
  have h3 := hc k (by rw [List.length_map]; exact hk) 3 (by decide)
  simp only [List.getElem_map] at h0 h1 h2 h3
  exact ⟨h0, h1, h2, h3⟩
theorem rqCellsI {w : World} {B b off : Nat} {A : Option Addr} {l : List Rq} (h : LsI 4 w B A (l.map rqC)) (h0 : 0 < l.length) : ∃ b off, A = some ⟨b, off, none⟩ ∧ b < B ∧ ∀ k (hk : k < l.length), w.cell? ⟨b, off + k * 4, none⟩ = some (.int .i64 l[k].1) ∧ w.cell? ⟨b, off + k * 4 + 1, none⟩ = some (.int .i64 l[k].2.1) ∧ w.cell? ⟨b, off + k * 4 + 2, none⟩ = some (.int .i64 l[k].2.2.1) ∧ w.cell? ⟨b, off + k * 4 + 3, none⟩ = some (.int .i64 l[k].2.2.2) := by
  rcases h with h | ⟨b, off, hA, hb, hc⟩
  · rw [List.length_map] at h; omega
  · refine ⟨b, off, hA, hb, fun k hk => ?_⟩
    have h0 := hc k (by rw [List.length_map]; exact hk) 0 (by decide)
    have h1 := hc k (by rw [List.length_map]; exact hk) 1 (by decide)
    have h2 := hc k (by rw [List.length_map]; exact hk) 2 (by decide)
    have h3 := hc k (by rw [List.length_map]; exact hk) 3 (by decide)
    simp only [List.getElem_map] at h0 h1 h2 h3
    exact ⟨h0, h1, h2, h3⟩
theorem OwnRq.nform {w : World} {base : Nat} {v : Value} {l : List Rq} (h : OwnRq w base v l) : ∃ A c, v = .slice A l.length c := by
  obtain ⟨A, c, h1⟩ := LsO.form h
  exact ⟨A, c, by rw [h1, List.length_map]⟩

end Go.Proofs.Ytdfcamlnebcbpaa
