/- What this text proves: what the program's two variables before and behind all pairs read as. -/
import Derived.Test.YtggfmimnmpanbaaDoorEl7
import Derived.LaidMore
import Derived.FnData
import Derived.ChangeSame
import Derived.Lib.SmallJoins
import Derived.LaidLaws
import Derived.Stop.Joined
import Derived.Stop.LaidErr
namespace Go.Proofs.YtggfmimnmpanbaaDoor
open Go.ChangeShapes Go.WideShapes Go.ChangeAt Go.RowKit Go.ChangeMaps Go.Joins
set_option linter.unusedVariables false

/-- A variable that holds a pair. -/
structure Pv (g : Nat) (a b : Int) (W : World) : Prop where
  lt : g < W.heap.size
  c0 : W.cell? ⟨g, 0, none⟩ = some (.int .i64 a)
  c1 : W.cell? ⟨g, 1, none⟩ = some (.int .i64 b)
theorem Pv.more {g : Nat} {a b : Int} {W W' : World} (h : Pv g a b W) (hb : Below W.heap.size W W') : Pv g a b W' :=
  ⟨Nat.lt_of_lt_of_le h.lt hb.size, (hb.cell (p := ⟨g, 0, none⟩) h.lt).trans h.c0, (hb.cell (p := ⟨g, 1, none⟩) h.lt).trans h.c1⟩
theorem Pv.moreAt {g n : Nat} {a b : Int} {W W' : World} (h : Pv g a b W) (hg : g < n) (hb : Below n W W') (hz : W.heap.size ≤ W'.heap.size) : Pv g a b W' :=
  ⟨Nat.lt_of_lt_of_le h.lt hz, (hb.cell (p := ⟨g, 0, none⟩) hg).trans h.c0, (hb.cell (p := ⟨g, 1, none⟩) hg).trans h.c1⟩
abbrev Bfr (W : World) : Prop := Pv 0 (-1) (-1) W
abbrev Bhd (W : World) : Prop := Pv 1 2000001 1000001 W
theorem pv_laid {n : String} {g : Nat} {a b : Int} {r : List (String × DataW Unit)} {w : World} (hg : Tryd.prog.globalNamed n = some g) (ht : (Tryd.prog.globals[g]?).map (·.type) = some 32)
    (h : laidMet Tryd.prog ((n, .agg [.lit (.int .i64 a), .lit (.int .i64 b)]) :: r) w) : Pv g a b w := by
  obtain ⟨ps, ⟨g', t', cs, fuel, p, q, hg', ht', hvar, hd, _, _⟩, _⟩ := h
  obtain rfl := Option.some.inj (hg.symm.trans hg')
  obtain rfl := Option.some.inj (ht.symm.trans ht')
  obtain ⟨y0, y1, n', hx, hl, h0, h1⟩ := trod_struct2 Tryd.underlying32 hd
  have k0 : Tryd.prog.cellsOf 3 = 1 := by kernel_rfl
  have k1 : Tryd.prog.cellsOf 32 = 2 := by kernel_rfl
  rw [k1] at hl
  obtain ⟨v0, v1, hcs⟩ : ∃ v0 v1, cs.toList = [v0, v1] := by
    match cs.toList, hl with
    | [v0, v1], _ => exact ⟨v0, v1, rfl⟩
  rw [hcs] at h0 h1
  simp [k0] at h0 h1
  obtain ⟨a0, e0, x0, _⟩ := DataW.trod_int Tryd.underlying3 h0
  obtain ⟨a1, e1, x1, _⟩ := DataW.trod_int Tryd.underlying3 h1
  simp at e0 e1
  subst e0 e1 x0 x1
  simp at hx
  obtain ⟨⟨rfl, rfl⟩, _⟩ := hx
  have hc := World.var?_cell hg hvar
  have hcs2 : cs = #[.int .i64 a, .int .i64 b] := by
    cases cs; simp_all
  have q0 := hc 0
  have q1 := hc 1
  rw [hcs2] at q0 q1
  refine ⟨?_, by simpa using q0, by simpa using q1⟩
  rcases Nat.lt_or_ge g w.heap.size with h1 | h1
  · exact h1
  · simp [World.cell?, Array.getElem?_eq_none h1] at q0
theorem trodVars_l1 {H : Type} {enc : TypeId × Value → H} {P : Program} {w : World} {sp : Nat → Bool} {n0 : String} {gs : List (DataW H)} {ps : List MemPlace} (h : DataW.TrodVars enc P w sp [n0] gs ps) : ∃ g1, gs = [g1] := by
  cases gs with
  | nil => cases h
  | cons g1 gs =>
    obtain ⟨_, _, _, _, _, _, _, _, _, _, h, _⟩ := h
    cases gs with
    | nil => exact ⟨g1, rfl⟩
    | cons g2 gs => cases h
theorem trodVars_l2 {H : Type} {enc : TypeId × Value → H} {P : Program} {w : World} {sp : Nat → Bool} {n0 n1 : String} {gs : List (DataW H)} {ps : List MemPlace} (h : DataW.TrodVars enc P w sp [n0, n1] gs ps) : ∃ g1 g2, gs = [g1, g2] := by
  cases gs with
  | nil => cases h
  | cons g1 gs =>
    obtain ⟨_, _, _, _, _, _, _, _, _, _, h, _⟩ := h
    obtain ⟨g2, rfl⟩ := trodVars_l1 h
    exact ⟨g1, g2, rfl⟩
theorem bfr_laid {w : World} {r : List (String × DataW Unit)} (h : laidMet Tryd.prog (("loop.example/g03316/impl.beforeAll", .agg [.lit (.int .i64 (-1)), .lit (.int .i64 (-1))]) :: r) w) : Bfr w :=
  pv_laid (by kernel_rfl) (by kernel_rfl) h
theorem bhd_laid {w : World} {x : String × DataW Unit} {r : List (String × DataW Unit)} (h : laidMet Tryd.prog (x :: ("loop.example/g03316/impl.behindAll", .agg [.lit (.int .i64 2000001), .lit (.int .i64 1000001)]) :: r) w) : Bhd w :=
  pv_laid (by kernel_rfl) (by kernel_rfl) h.tail
end Go.Proofs.YtggfmimnmpanbaaDoor
