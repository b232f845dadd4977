/- What this text proves: a struct of five fields that is handed to a law by value, opened to its fields. -/
import Derived.Test.YtegahdlfjdjcaabLaw
import Derived.Lib.SmallJoins
namespace Go.Proofs.Ytegahdlfjdjcaab
open Go.ChangeShapes Go.WideShapes Go.ChangeAt Go.RowKit Go.Joins Go.Deep

theorem list5 {α : Type} {l : List α} (h : l.length = 5) : ∃ a b c d e, l = [a, b, c, d, e] := by
  match l, h with
  | [a, b, c, d, e], _ => exact ⟨a, b, c, d, e, rfl⟩
section
variable {H : Type} {enc : TypeId × Value → H} {P : Program} {w : World} {base : Nat} {spare : Nat → Bool} {held : Bool}
theorem open_agg5 {r : Reach} {b0 : Nat} {t : TypeId} {f0 f1 f2 f3 f4 : Field} {v : Value} {d : DataW H} {p : List MemPlace} (hs : P.underlying t = some (.struct #[f0, f1, f2, f3, f4])) (hone : oneCellFields P #[f0, f1, f2, f3, f4] = true) (hC : P.cellsOf t = 5)
    (hv : Value.okWide P w r b0 t v) (h : DataW.Trod enc P w base spare held t v d p) :
    ∃ (v0 v1 v2 v3 v4 : Value) (y0 y1 y2 y3 y4 : DataW H × List MemPlace) (n : Nat), v = .agg #[v0, v1, v2, v3, v4] ∧ d = .agg [y0.1, y1.1, y2.1, y3.1, y4.1] ∧ p = y0.2 ++ (y1.2 ++ (y2.2 ++ (y3.2 ++ y4.2))) ∧
      DataW.trod enc P w base spare held n f0.type [v0] = some y0 ∧ DataW.trod enc P w base spare held n f1.type [v1] = some y1 ∧ DataW.trod enc P w base spare held n f2.type [v2] = some y2 ∧ DataW.trod enc P w base spare held n f3.type [v3] = some y3 ∧ DataW.trod enc P w base spare held n f4.type [v4] = some y4 := by
  obtain ⟨cs, rfl, hsz⟩ := okWide_struct hs hv
  obtain ⟨l⟩ := cs
  obtain ⟨c0, c1, c2, c3, c4, hl⟩ := list5 (l := l) (hsz.trans hC)
  subst hl
  obtain ⟨fuel, hf⟩ := h
  obtain ⟨xs, n, _, hx, _, hlen, hg⟩ := DataW.trod_struct hs hf
  obtain ⟨y0, y1, y2, y3, y4, hy⟩ := list5 (l := xs) hlen
  subst hy
  have at_ : ∀ (i : Nat) (f : Field) (c : Value) (y : DataW H × List MemPlace), (#[f0, f1, f2, f3, f4] : Array Field)[i]? = some f → [c0, c1, c2, c3, c4][i]? = some c → [y0, y1, y2, y3, y4][i]? = some y → DataW.trod enc P w base spare held n f.type [c] = some y := by
    intro i f c y h1 h2 h3
    obtain ⟨o, k⟩ := hone_of hone i f h1
    have h4 := hg i f h1
    rw [h3, o, k] at h4
    have h5 : (List.drop i (Value.agg ⟨[c0, c1, c2, c3, c4]⟩).cells.toList).take 1 = [c] := by
      match i, h2 with
      | 0, h2 => simpa [Value.cells] using h2
      | 1, h2 => simpa [Value.cells] using h2
      | 2, h2 => simpa [Value.cells] using h2
      | 3, h2 => simpa [Value.cells] using h2
      | 4, h2 => simpa [Value.cells] using h2
    rw [h5] at h4
    exact h4
  simp only [Prod.mk.injEq] at hx
  exact ⟨c0, c1, c2, c3, c4, y0, y1, y2, y3, y4, n, rfl, hx.1, by simpa using hx.2, at_ 0 f0 c0 y0 rfl rfl rfl, at_ 1 f1 c1 y1 rfl rfl rfl, at_ 2 f2 c2 y2 rfl rfl rfl, at_ 3 f3 c3 y3 rfl rfl rfl, at_ 4 f4 c4 y4 rfl rfl rfl⟩
end
end Go.Proofs.Ytegahdlfjdjcaab
