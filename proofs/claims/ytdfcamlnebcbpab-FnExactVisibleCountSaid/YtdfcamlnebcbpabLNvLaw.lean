/- What this text proves: the laws of FnExactNextVisible and FnExactVisibleCount: the program and the model answer alike, for every orbit and all times. -/
import Derived.Test.YtdfcamlnebcbpabNxv
import Derived.Test.YtdfcamlnebcbpabVct
namespace Go.Proofs.Ytdfcamlnebcbpab
open Go.ChangeShapes Go.WideShapes Go.ChangeAt Go.RowKit
set_option linter.unusedVariables false

set_option maxHeartbeats 1000000 in
theorem law_nextvisible (p s l t : Int) (hp : -9223372036854775808 ≤ p ∧ p ≤ 9223372036854775807) (hs : -9223372036854775808 ≤ s ∧ s ≤ 9223372036854775807) (hl : -9223372036854775808 ≤ l ∧ l ≤ 9223372036854775807) (ht : -9223372036854775808 ≤ t ∧ t ≤ 9223372036854775807) (w : World) :
    Calls Try.prog 3 #[obV p s l, .int .i64 t] w fun e w' => e = .returned (.bool true) ∧ Below w.heap.size w w' := by
  have H1 := Lib.hid (to_ob p s l)
  have H2 := Lib.hid (nxv_spec p s l t)
  have H3 := Lib.hid (nxv_impl p s l t)
  have F0 := Lib.hid (Fit.made w (obL p s l) 23)
  have c0 := F0.out.box.cell 0 (by simp)
  have c1 := F0.out.box.cell 1 (by simp)
  have c2 := F0.out.box.cell 2 (by simp)
  generalize nxR p s l t = x at *
  have hx : (x != x) = false := by simp
  go_enter Try.func3, Try.ntmps3
  go_wp2_with fail
  refine (H1.out _).mono ?_
  rintro e w1 ⟨rfl, hb1⟩
  have F1 := Lib.hid (F0.out.more hb1)
  clear hb1 c0 c1 c2
  go_wp2_with fail
  refine (H2.out _).mono ?_
  rintro e w2 ⟨rfl, hb2⟩
  have F2 := Lib.hid (F1.out.more hb2)
  have c0 := F2.out.box.cell 0 (by simp)
  have c1 := F2.out.box.cell 1 (by simp)
  have c2 := F2.out.box.cell 2 (by simp)
  clear hb2
  go_wp2_with fail
  refine (H1.out _).mono ?_
  rintro e w3 ⟨rfl, hb3⟩
  have F3 := Lib.hid (F2.out.more hb3)
  clear hb3 c0 c1 c2
  go_wp2_with fail
  refine (H3.out _).mono ?_
  rintro e w4 ⟨rfl, hb4⟩
  have F4 := Lib.hid (F3.out.more hb4)
  clear hb4
  go_wp2
  go_ret
  exact ⟨rfl, F4.out.below⟩
set_option maxHeartbeats 1000000 in
theorem law_visiblecount (p s l a b : Int) (hp : -9223372036854775808 ≤ p ∧ p ≤ 9223372036854775807) (hs : -9223372036854775808 ≤ s ∧ s ≤ 9223372036854775807) (hl : -9223372036854775808 ≤ l ∧ l ≤ 9223372036854775807) (ha : -9223372036854775808 ≤ a ∧ a ≤ 9223372036854775807) (hb : -9223372036854775808 ≤ b ∧ b ≤ 9223372036854775807) (w : World) :
    Calls Try.prog 4 #[obV p s l, .int .i64 a, .int .i64 b] w fun e w' => e = .returned (.bool true) ∧ Below w.heap.size w w' := by
  have H1 := Lib.hid (to_ob p s l)
  have H2 := Lib.hid (vct_spec p s l a b)
  have H3 := Lib.hid (vct_impl p s l a b)
  have F0 := Lib.hid (Fit.made w (obL p s l) 23)
  have c0 := F0.out.box.cell 0 (by simp)
  have c1 := F0.out.box.cell 1 (by simp)
  have c2 := F0.out.box.cell 2 (by simp)
  generalize cntR p s l a b = x at *
  have hx : (x != x) = false := by simp
  go_enter Try.func4, Try.ntmps4
  go_wp2_with fail
  refine (H1.out _).mono ?_
  rintro e w1 ⟨rfl, hb1⟩
  have F1 := Lib.hid (F0.out.more hb1)
  clear hb1 c0 c1 c2
  go_wp2_with fail
  refine (H2.out _).mono ?_
  rintro e w2 ⟨rfl, hb2⟩
  have F2 := Lib.hid (F1.out.more hb2)
  have c0 := F2.out.box.cell 0 (by simp)
  have c1 := F2.out.box.cell 1 (by simp)
  have c2 := F2.out.box.cell 2 (by simp)
  clear hb2
  go_wp2_with fail
  refine (H1.out _).mono ?_
  rintro e w3 ⟨rfl, hb3⟩
  have F3 := Lib.hid (F2.out.more hb3)
  clear hb3 c0 c1 c2
  go_wp2_with fail
  refine (H3.out _).mono ?_
  rintro e w4 ⟨rfl, hb4⟩
  have F4 := Lib.hid (F3.out.more hb4)
  clear hb4
  go_wp2
  go_ret
  exact ⟨rfl, F4.out.below⟩
end Go.Proofs.Ytdfcamlnebcbpab
