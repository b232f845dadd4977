/- What this text proves: a board that is handed to a law, opened: its numbers, and its lists, which are there to be read. -/
import Derived.Test.YtebfefkknaalpabBrM
import Derived.Test.YtebfefkknaalpabBrTo
import Derived.Test.YtebfefkknaalpabOpenR
import Derived.Test.YtebfefkknaalpabLmO
import Derived.Test.YtebfefkknaalpabDnO
import Derived.Test.YtebfefkknaalpabWtO
namespace Go.Proofs.Ytebfefkknaalpab
open Go.ChangeShapes Go.WideShapes Go.ChangeAt Go.RowKit Go.Joins Go.Deep
set_option linter.unusedVariables false

section
variable {H : Type} {enc : TypeId × Value → H} {W : World} {base : Nat}
set_option maxRecDepth 100000 in
set_option maxHeartbeats 2000000 in
theorem open_bd {r0 : Reach} {v : Value} {d : DataW H} {p : List MemPlace} (hv : Value.okWide Try.prog W r0 base 51 v) (h : DataW.Trod enc Try.prog W 0 (fun _ => true) true 51 v d p) :
    ∃ (b : Bd) (a : BdA), v = bdV b a ∧ BdMax b ∧ BdAt W W.heap.size b a := by
  obtain ⟨cs, rfl, hsz⟩ := okWide_struct Try.underlying51 hv
  obtain ⟨fuel, hf⟩ := h
  obtain ⟨xs, k, hk, hxy, _, hxl, hg⟩ := DataW.trod_struct Try.underlying51 hf
  obtain ⟨l⟩ := cs
  have hl : l.length = 12 := hsz.trans (by kernel_rfl)
  clear hsz hv hf hxy
  match xs, hxl, l, hl with
  | [y0, y1, y2, y3, y4, y5, y6, y7, y8, y9], _, [v0, v1, v2, v3, v4, v5, v6, v7, v8, v9, v10, v11], _ =>
    have g0 := hg 0 _ rfl
    have g1 := hg 1 _ rfl
    have g2 := hg 2 _ rfl
    have g3 := hg 3 _ rfl
    have g4 := hg 4 _ rfl
    have g5 := hg 5 _ rfl
    have g6 := hg 6 _ rfl
    have g7 := hg 7 _ rfl
    have g8 := hg 8 _ rfl
    have g9 := hg 9 _ rfl
    have k0 : Try.prog.cellsOf 3 = 1 := by kernel_rfl
    have k1 : Try.prog.cellsOf 23 = 1 := by kernel_rfl
    have k2 : Try.prog.cellsOf 4 = 1 := by kernel_rfl
    have k3 : Try.prog.cellsOf 47 = 1 := by kernel_rfl
    have k4 : Try.prog.cellsOf 48 = 1 := by kernel_rfl
    have k5 : Try.prog.cellsOf 49 = 1 := by kernel_rfl
    have k6 : Try.prog.cellsOf 25 = 3 := by kernel_rfl
    have k7 : Try.prog.cellsOf 22 = 1 := by kernel_rfl
    simp [k0, k1, k2, k3, k4, k5, k6, Value.cells] at g0 g1 g2 g3 g4 g5 g6 g7 g8 g9
    obtain ⟨a0, e0, _, _⟩ := DataW.trod_int Try.underlying3 g0
    obtain ⟨A1, l1, c1, e1, w1, i1⟩ := open_starts g1
    obtain ⟨a2, e2, _⟩ := DataW.trod_bool Try.underlying4 g2
    obtain ⟨A3, l3, c3, e3, w3, i3⟩ := open_lms g3
    obtain ⟨A4, l4, c4, e4, w4, i4⟩ := open_wts g4
    obtain ⟨A5, l5, c5, e5, w5, i5⟩ := open_dns g5
    obtain ⟨zs, kk, hkk, hzy, _, hzl, hg2⟩ := DataW.trod_struct Try.underlying25 g6
    obtain ⟨a7, e7, _, _⟩ := DataW.trod_int Try.underlying3 g7
    obtain ⟨a8, e8, _, _⟩ := DataW.trod_int Try.underlying3 g8
    obtain ⟨A9, l9, c9, e9, w9, i9⟩ := open_starts g9
    match zs, hzl with
    | [z0, z1, z2], _ =>
      have f0 := hg2 0 _ rfl
      have f1 := hg2 1 _ rfl
      have f2 := hg2 2 _ rfl
      simp [k0, k1, k7] at f0 f1 f2
      obtain ⟨a6, e6, _, _⟩ := DataW.trod_int Try.underlying3 f0
      obtain ⟨B1, m1, n1, h1, u1, s1, j1⟩ := open_rcs f1
      obtain ⟨B2, m2, n2, h2, u2, j2⟩ := open_starts f2
      simp at e0 e2 e6 e7 e8
      subst e0 e1 e2 e3 e4 e5 e6 e7 e8 e9 h1 h2
      exact ⟨⟨a0, l1, a2, l3, l4, l5, a6, m1, m2, a7, a8, l9⟩, ⟨A1, c1, A3, c3, A4, c4, A5, c5, B1, n1, B2, n2, A9, c9⟩, rfl, ⟨w1, w3, w4, w5, u1, s1, u2, w9⟩, ⟨ints_LsI i1, i3, i4, i5, j1, ints_LsI j2, ints_LsI i9⟩⟩
end
end Go.Proofs.Ytebfefkknaalpab
