/- What this text proves: the three errors of the program's own, as they lie when a call begins: three different ones, which stay. -/
import Derived.Test.YtmmedhjmilgnbaaDoorLaw
import Derived.Stop.LaidErr
import Derived.Stop.LaidTwo
import Derived.LaidLaws
namespace Go.Proofs.YtmmedhjmilgnbaaDoor
open Go.ChangeShapes Go.WideShapes Go.ChangeAt Go.RowKit
set_option linter.unusedVariables false

abbrev erV (a : Addr) : Value := .iface 93 (.pointer (some a))
/-- The errors: a0: one is missing; a1: it locks; a2: nothing changes. -/
structure Sents (W : World) (a0 a1 a2 : Addr) : Prop where
  c0 : W.cell? ⟨0, 0, none⟩ = some (erV a0)
  c1 : W.cell? ⟨1, 0, none⟩ = some (erV a1)
  c2 : W.cell? ⟨2, 0, none⟩ = some (erV a2)
  n01 : a0 ≠ a1
  n02 : a0 ≠ a2
  n12 : a1 ≠ a2
  h0 : ∃ c t, W.heap[a0.block]? = some (.cells c t (0, 0))
  h1 : ∃ c t, W.heap[a1.block]? = some (.cells c t (0, 0))
  h2 : ∃ c t, W.heap[a2.block]? = some (.cells c t (0, 0))
theorem lt_of_cellE {W : World} {p : Addr} {v : Value} (h : W.cell? p = some v) : p.block < W.heap.size := by
  rcases Nat.lt_or_ge p.block W.heap.size with h1 | h1
  · exact h1
  · simp [World.cell?, Array.getElem?_eq_none h1] at h
theorem heap_more {W W' : World} (hb : Below W.heap.size W W') {k : Nat} {o : Obj} (h : W.heap[k]? = some o) : W'.heap[k]? = some o := by
  have hk : k < W.heap.size := by
    rcases Nat.lt_or_ge k W.heap.size with h1 | h1
    · exact h1
    · rw [Array.getElem?_eq_none h1] at h; cases h
  rw [hb.block k hk]
  exact h
theorem Sents.more {W W' : World} {a0 a1 a2 : Addr} (h : Sents W a0 a1 a2) (hb : Below W.heap.size W W') : Sents W' a0 a1 a2 := by
  obtain ⟨c0, c1, c2, n01, n02, n12, ⟨x0, t0, h0⟩, ⟨x1, t1, h1⟩, ⟨x2, t2, h2⟩⟩ := h
  exact ⟨(hb.cell (lt_of_cellE c0)).trans c0, (hb.cell (lt_of_cellE c1)).trans c1, (hb.cell (lt_of_cellE c2)).trans c2, n01, n02, n12, ⟨x0, t0, heap_more hb h0⟩, ⟨x1, t1, heap_more hb h1⟩, ⟨x2, t2, heap_more hb h2⟩⟩
theorem starE : "*" ++ "errors.errorString" = "*errors.errorString" := by decide
theorem row_errE (u : TypeId) (h : Tryd.prog.typeName? 3 u = some "*errors.errorString") : u = 93 :=
  typeName_ptr_named (nm := "errors.errorString") (by rw [starE]; kernel_rfl) (by kernel_rfl) (by decide) u (by rw [starE]; exact h)
theorem laidMet.drop2 {P : Program} {x y : String × DataW Unit} {r : List (String × DataW Unit)} {w : World} (h : laidMet P (x :: y :: r) w) : laidMet P (x :: r) w := by
  obtain ⟨ps, hv, hnd, hrows⟩ := h
  obtain ⟨n, d⟩ := x
  obtain ⟨n', d'⟩ := y
  obtain ⟨g, t, cs, fuel, p, q, e1, e2, e3, e4, ⟨g', t', cs', fuel', p', q', _, _, _, _, hq, rfl⟩, rfl⟩ := hv
  have hsub : List.Sublist (MemPlace.row ⟨g, 0, none⟩ cs.size ++ p ++ q') (MemPlace.row ⟨g, 0, none⟩ cs.size ++ p ++ (MemPlace.row ⟨g', 0, none⟩ cs'.size ++ p' ++ q')) :=
    List.Sublist.append (List.Sublist.refl _) (List.sublist_append_right _ _)
  exact ⟨_, ⟨g, t, cs, fuel, p, q', e1, e2, e3, e4, hq, rfl⟩, List.Nodup.sublist hsub hnd, fun b off hm => hrows b off (hsub.subset hm)⟩
theorem sents_laid {w : World} (h : laidMet Tryd.prog [("loop.example/g03316/impl.errAsksAgain", Rows.laid_loop_example_g03316_impl_errAsksAgain), ("loop.example/g03316/impl.errLocks", Rows.laid_loop_example_g03316_impl_errLocks), ("loop.example/g03316/impl.errIgnores", Rows.laid_loop_example_g03316_impl_errIgnores)] w) : ∃ a0 a1 a2, Sents w a0 a1 a2 := by
  have two := fun {n0 n1 : String} {t0 t1 : List UInt8} {r : List (String × DataW Unit)} {g0 g1 : Nat} (h : laidMet Tryd.prog ((n0, .iface "*errors.errorString" (.ptr (.agg [.lit (.string t0)]))) :: (n1, .iface "*errors.errorString" (.ptr (.agg [.lit (.string t1)]))) :: r) w) (e0 : Tryd.prog.globalNamed n0 = some g0) (e1 : (Tryd.prog.globals[g0]?).map (·.type) = some 59) (e2 : Tryd.prog.globalNamed n1 = some g1) (e3 : (Tryd.prog.globals[g1]?).map (·.type) = some 59) =>
    laid_sentinels2 h e0 e1 e2 e3 Tryd.underlying59 row_errE Tryd.underlying93 Tryd.underlying119 rfl rfl Tryd.underlying9 (by kernel_rfl) (by kernel_rfl)
  have k0 : Tryd.prog.globalNamed "loop.example/g03316/impl.errAsksAgain" = some 0 := by kernel_rfl
  have k1 : Tryd.prog.globalNamed "loop.example/g03316/impl.errLocks" = some 1 := by kernel_rfl
  have k2 : Tryd.prog.globalNamed "loop.example/g03316/impl.errIgnores" = some 2 := by kernel_rfl
  have m0 : (Tryd.prog.globals[0]?).map (·.type) = some 59 := by kernel_rfl
  have m1 : (Tryd.prog.globals[1]?).map (·.type) = some 59 := by kernel_rfl
  have m2 : (Tryd.prog.globals[2]?).map (·.type) = some 59 := by kernel_rfl
  obtain ⟨a0, a1, _, _, _, _, _, _, v0, v1, _, _, _, _, _, _, n01, h0, h1⟩ := two h k0 m0 k1 m1
  obtain ⟨b1, a2, _, _, _, _, _, _, u1, v2, _, _, _, _, _, _, n12, _, h2⟩ := two h.tail k1 m1 k2 m2
  obtain ⟨b0, b2, _, _, _, _, _, _, u0, u2, _, _, _, _, _, _, n02, _, _⟩ := two (laidMet.drop2 h) k0 m0 k2 m2
  obtain rfl : a1 = b1 := by rw [v1] at u1; simpa using u1
  obtain rfl : a0 = b0 := by rw [v0] at u0; simpa using u0
  obtain rfl : a2 = b2 := by rw [v2] at u2; simpa using u2
  exact ⟨a0, a1, a2, by simpa using World.var?_cell k0 v0 0, by simpa using World.var?_cell k1 v1 0, by simpa using World.var?_cell k2 v2 0, n01, n02, n12, ⟨_, _, h0⟩, ⟨_, _, h1⟩, ⟨_, _, h2⟩⟩
theorem trodVars_three {H : Type} {enc : TypeId × Value → H} {P : Program} {w : World} {sp : Nat → Bool} {n0 n1 n2 : String} {gs : List (DataW H)} {ps : List MemPlace} (h : DataW.TrodVars enc P w sp [n0, n1, n2] gs ps) : ∃ g1 g2 g3, gs = [g1, g2, g3] := by
  cases gs with
  | nil => cases h
  | cons g1 gs =>
    obtain ⟨_, _, _, _, _, _, _, _, _, _, h, _⟩ := h
    cases gs with
    | nil => cases h
    | cons g2 gs =>
      obtain ⟨_, _, _, _, _, _, _, _, _, _, h, _⟩ := h
      cases gs with
      | nil => cases h
      | cons g3 gs =>
        obtain ⟨_, _, _, _, _, _, _, _, _, _, h, _⟩ := h
        cases gs with
        | nil => exact ⟨g1, g2, g3, rfl⟩
        | cons _ _ => cases h
end Go.Proofs.YtmmedhjmilgnbaaDoor
