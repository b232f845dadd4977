/- What this text proves: limits, orders that wait and orders that are done as values; the laws' own functions over one of them. -/
import Derived.Test.YtebfefkknaalpabOrd
import Derived.Deep.MidRow
namespace Go.Proofs.Ytebfefkknaalpab
open Go.ChangeShapes Go.WideShapes Go.ChangeAt Go.RowKit
set_option linter.unusedVariables false

abbrev lmV (a b c : Int) : Value := .agg #[.int .i64 a, .int .i64 b, .int .i64 c]
theorem to_lm (a b c : Int) (w : World) :
    Calls Try.prog 74 #[lmV a b c] w fun e w' => e = .returned (lmV a b c) ∧ Below w.heap.size w w' := by
  go_enter Try.func74, Try.ntmps74
  go_wp2
  refine bodyPost_ret (v := lmV a b c) (by simp [results, Try.results74, go_sem]) rfl ⟨rfl, (((Below.refl _ w).alloc (Nat.le_refl _) _).alloc (by simp) _).alloc (by simp; omega) _⟩

theorem eq_lm (a b c : Int) (w : World) :
    Calls Try.prog 76 #[lmV a b c, lmV a b c] w fun e w' => e = .returned (.bool true) ∧ Below w.heap.size w w' := by
  go_enter Try.func76, Try.ntmps76
  go_wp2
  go_ret
  exact ⟨rfl, ((Below.refl _ w).alloc (Nat.le_refl _) _).alloc (by simp) _⟩

abbrev dnV (a b c : Int) : Value := .agg #[.int .i64 a, .int .i64 b, .int .i64 c]
theorem to_dn (a b c : Int) (w : World) :
    Calls Try.prog 95 #[dnV a b c] w fun e w' => e = .returned (dnV a b c) ∧ Below w.heap.size w w' := by
  go_enter Try.func95, Try.ntmps95
  go_wp2
  refine bodyPost_ret (v := dnV a b c) (by simp [results, Try.results95, go_sem]) rfl ⟨rfl, (((Below.refl _ w).alloc (Nat.le_refl _) _).alloc (by simp) _).alloc (by simp; omega) _⟩

theorem eq_dn (a b c : Int) (w : World) :
    Calls Try.prog 99 #[dnV a b c, dnV a b c] w fun e w' => e = .returned (.bool true) ∧ Below w.heap.size w w' := by
  go_enter Try.func99, Try.ntmps99
  go_wp2
  go_ret
  exact ⟨rfl, ((Below.refl _ w).alloc (Nat.le_refl _) _).alloc (by simp) _⟩

abbrev wtV (n k t a b : Int) : Value := .agg #[.int .i64 n, .int .i64 k, .int .i64 t, .int .i64 a, .int .i64 b]
abbrev wtL (n k t a b : Int) : List Value := [.int .i64 n, .int .i64 k, .int .i64 t, .int .i64 a, .int .i64 b]
abbrev Cells5 (W : World) (g : Nat) (x y z u v : Value) : Prop := W.cell? ⟨g, 0, none⟩ = some x ∧ W.cell? ⟨g, 1, none⟩ = some y ∧ W.cell? ⟨g, 2, none⟩ = some z ∧ W.cell? ⟨g, 3, none⟩ = some u ∧ W.cell? ⟨g, 4, none⟩ = some v
theorem Box.five5 {W : World} {g : Nat} {x y z u v : Value} (h : Box W g [x, y, z, u, v]) : Cells5 W g x y z u v := ⟨h.cell 0 (by simp), h.cell 1 (by simp), h.cell 2 (by simp), h.cell 3 (by simp), h.cell 4 (by simp)⟩

set_option maxHeartbeats 400000 in
theorem to_wt (n k t a b : Int) (w : World) :
    Calls Try.prog 94 #[wtV n k t a b] w fun e w' => e = .returned (wtV n k t a b) ∧ Below w.heap.size w w' := by
  have HT := Lib.hid (to_ord k t a b)
  have BR := (Box.made (w.alloc (.cells (wtL n k t a b).toArray 126)) (wtL 0 0 0 0 0) 113 (w.heap.size + 1) (by simp)).alloc (.cells (wtL n 0 0 0 0).toArray 113)
  have BO := Box.made ((w.alloc (.cells (wtL n k t a b).toArray 126)).alloc (.cells (wtL 0 0 0 0 0).toArray 113)) (wtL n 0 0 0 0) 113 (w.heap.size + 1 + 1) (by simp)
  have BB : Below w.heap.size w (((w.alloc (.cells (wtL n k t a b).toArray 126)).alloc (.cells (wtL 0 0 0 0 0).toArray 113)).alloc (.cells (wtL n 0 0 0 0).toArray 113)) := (((Below.refl _ w).alloc (Nat.le_refl _) _).alloc (by simp) _).alloc (by simp; omega) _
  have hz : ((((w.alloc (.cells (wtL n k t a b).toArray 126)).alloc (.cells (wtL 0 0 0 0 0).toArray 113)).alloc (.cells (wtL n 0 0 0 0).toArray 113))).heap.size = w.heap.size + 3 := by simp
  go_enter Try.func94, Try.ntmps94
  go_wp2_with fail
  refine (HT.out _).mono ?_
  rintro e w2 ⟨rfl, hb⟩
  have BR2 := BR.more hb
  have BO2 := BO.more hb
  have BB2 := BB.trans (hb.mono BB.size)
  have BO3 : Box (w2.setCells (w.heap.size + 1 + 1) 1 (orL k t a b)) (w.heap.size + 1 + 1) (wtL n k t a b) := (((BO2.set 1 (by simp) (.int .i64 k)).set 2 (by simp) (.int .i64 t)).set 3 (by simp) (.int .i64 a)).set 4 (by simp) (.int .i64 b)
  have BR3 := Box.allOther (W := w2) (g := w.heap.size + 1) (ga := w.heap.size + 1 + 1) (by omega) (orL k t a b) 1 w2 BR2
  have BB3 := below_setCells (B := w.heap.size) (ga := w.heap.size + 1 + 1) (by omega) (orL k t a b) 1 w2 BB2
  obtain ⟨m0, m1, m2, m3, m4⟩ := BO2.five5
  have mi := BO2.ice
  have e1 : (w2.setCell ⟨w.heap.size + 1 + 1, 1, none⟩ (.int .i64 k)).cell? ⟨w.heap.size + 1 + 1, 2, none⟩ = some (.int .i64 0) := (BO2.set 1 (by simp) (.int .i64 k)).cell 2 (by simp)
  have e2 : ((w2.setCell ⟨w.heap.size + 1 + 1, 1, none⟩ (.int .i64 k)).setCell ⟨w.heap.size + 1 + 1, 2, none⟩ (.int .i64 t)).cell? ⟨w.heap.size + 1 + 1, 3, none⟩ = some (.int .i64 0) := ((BO2.set 1 (by simp) (.int .i64 k)).set 2 (by simp) (.int .i64 t)).cell 3 (by simp)
  have e3 : (((w2.setCell ⟨w.heap.size + 1 + 1, 1, none⟩ (.int .i64 k)).setCell ⟨w.heap.size + 1 + 1, 2, none⟩ (.int .i64 t)).setCell ⟨w.heap.size + 1 + 1, 3, none⟩ (.int .i64 a)).cell? ⟨w.heap.size + 1 + 1, 4, none⟩ = some (.int .i64 0) := (((BO2.set 1 (by simp) (.int .i64 k)).set 2 (by simp) (.int .i64 t)).set 3 (by simp) (.int .i64 a)).cell 4 (by simp)
  clear BR BO BB BR2 BO2 BB2 hb hz
  change Box ((((w2.setCell ⟨w.heap.size + 1 + 1, 1, none⟩ (.int .i64 k)).setCell ⟨w.heap.size + 1 + 1, 2, none⟩ (.int .i64 t)).setCell ⟨w.heap.size + 1 + 1, 3, none⟩ (.int .i64 a)).setCell ⟨w.heap.size + 1 + 1, 4, none⟩ (.int .i64 b)) _ _ at BO3 BR3
  change Below _ _ ((((w2.setCell ⟨w.heap.size + 1 + 1, 1, none⟩ (.int .i64 k)).setCell ⟨w.heap.size + 1 + 1, 2, none⟩ (.int .i64 t)).setCell ⟨w.heap.size + 1 + 1, 3, none⟩ (.int .i64 a)).setCell ⟨w.heap.size + 1 + 1, 4, none⟩ (.int .i64 b)) at BB3
  obtain ⟨n0, n1, n2, n3, n4⟩ := BO3.five5
  have ni := BO3.ice
  obtain ⟨r0, r1, r2, r3, r4⟩ := BR3.five5
  have ri := BR3.ice
  have BF := Lib.hid (BR3.all (us := wtL n k t a b) rfl)
  have BWF := Lib.hid (below_setCells (B := w.heap.size) (ga := w.heap.size + 1) (by omega) (wtL n k t a b) 0 _ BB3)
  clear BO3 BR3 BB3
  go_wp2
  show bodyPost Try.prog Try.f94 _ Exit.ret _ (((((w2.setCell ⟨w.heap.size + 1 + 1, 1, none⟩ (.int .i64 k)).setCell ⟨w.heap.size + 1 + 1, 2, none⟩ (.int .i64 t)).setCell ⟨w.heap.size + 1 + 1, 3, none⟩ (.int .i64 a)).setCell ⟨w.heap.size + 1 + 1, 4, none⟩ (.int .i64 b)).setCells (w.heap.size + 1) 0 (wtL n k t a b))
  generalize ((((w2.setCell ⟨w.heap.size + 1 + 1, 1, none⟩ (.int .i64 k)).setCell ⟨w.heap.size + 1 + 1, 2, none⟩ (.int .i64 t)).setCell ⟨w.heap.size + 1 + 1, 3, none⟩ (.int .i64 a)).setCell ⟨w.heap.size + 1 + 1, 4, none⟩ (.int .i64 b)).setCells (w.heap.size + 1) 0 (wtL n k t a b) = WE at *
  obtain ⟨c0, c1, c2, c3, c4⟩ := BF.out.five5
  refine bodyPost_ret_by (v := wtV n k t a b) ?_ rfl ⟨rfl, BWF.out⟩
  simp [results, Try.f94, go_sem, c0, c1, c2, c3, c4]

theorem eq_wt (n k t a b : Int) (w : World) :
    Calls Try.prog 98 #[wtV n k t a b, wtV n k t a b] w fun e w' => e = .returned (.bool true) ∧ Below w.heap.size w w' := by
  have HT := Lib.hid (eq_ord k t a b)
  have B0 := (((Below.refl _ w).alloc (Nat.le_refl _) (.cells (wtL n k t a b).toArray 113)).alloc (by simp) (.cells (wtL n k t a b).toArray 113))
  have hz := B0.size
  go_enter Try.func98, Try.ntmps98
  go_wp2_with fail
  refine (HT.out _).mono ?_
  rintro e w2 ⟨rfl, hb⟩
  have HB := Lib.hid (B0.trans (hb.mono hz))
  clear hb B0 hz
  go_wp2
  go_ret
  exact ⟨rfl, HB.out⟩

end Go.Proofs.Ytebfefkknaalpab
