/- What this text proves: the laws of FnExactOrbitOk, FnExactVisible and FnExactPassOf: the program and the model answer alike, for every orbit and time. -/
import Derived.Test.YtdfcamlnebcbpaaVis
namespace Go.Proofs.Ytdfcamlnebcbpaa
open Go.ChangeShapes Go.WideShapes Go.ChangeAt Go.RowKit
set_option linter.unusedVariables false

set_option maxHeartbeats 1000000 in
theorem law_orbitok (p s l : Int) (hp : -9223372036854775808 ≤ p ∧ p ≤ 9223372036854775807) (hs : -9223372036854775808 ≤ s ∧ s ≤ 9223372036854775807) (hl : -9223372036854775808 ≤ l ∧ l ≤ 9223372036854775807) (w : World) :
    Calls Try.prog 6 #[obV p s l] w fun e w' => e = .returned (.bool true) ∧ Below w.heap.size w w' := by
  have H1 := Lib.hid (to_ob p s l)
  have H2 := Lib.hid (ob_spec p s l)
  have H3 := Lib.hid (ob_impl p s l)
  have F0 := Lib.hid (Fit.made w (obL p s l) 49)
  have c0 := F0.out.box.cell 0 (by simp)
  have c1 := F0.out.box.cell 1 (by simp)
  have c2 := F0.out.box.cell 2 (by simp)
  generalize decide (OrbOk p s l) = x at *
  have hx : (x != x) = false := by simp
  go_enter Try.func6, Try.ntmps6
  go_wp2_with fail
  refine (H1.out _).mono ?_
  rintro e w1 ⟨rfl, hb1⟩
  have F1 := Lib.hid (F0.out.more hb1)
  clear hb1 c0 c1 c2
  go_wp2_with fail
  refine (H2.out _).mono ?_
  rintro e w2 ⟨rfl, hb2⟩
  have F2 := Lib.hid (F1.out.more hb2)
  have c0 := F2.out.box.cell 0 (by simp)
  have c1 := F2.out.box.cell 1 (by simp)
  have c2 := F2.out.box.cell 2 (by simp)
  clear hb2
  go_wp2_with fail
  refine (H1.out _).mono ?_
  rintro e w3 ⟨rfl, hb3⟩
  have F3 := Lib.hid (F2.out.more hb3)
  clear hb3 c0 c1 c2
  go_wp2_with fail
  refine (H3.out _).mono ?_
  rintro e w4 ⟨rfl, hb4⟩
  have F4 := Lib.hid (F3.out.more hb4)
  clear hb4
  go_wp2
  go_ret
  exact ⟨rfl, F4.out.below⟩
set_option maxHeartbeats 1000000 in
theorem law_visible (p s l t : Int) (hp : -9223372036854775808 ≤ p ∧ p ≤ 9223372036854775807) (hs : -9223372036854775808 ≤ s ∧ s ≤ 9223372036854775807) (hl : -9223372036854775808 ≤ l ∧ l ≤ 9223372036854775807) (ht : -9223372036854775808 ≤ t ∧ t ≤ 9223372036854775807) (w : World) :
    Calls Try.prog 7 #[obV p s l, .int .i64 t] w fun e w' => e = .returned (.bool true) ∧ Below w.heap.size w w' := by
  have H1 := Lib.hid (to_ob p s l)
  have H2 := Lib.hid (vis_spec p s l t)
  have H3 := Lib.hid (vis_impl p s l t)
  have F0 := Lib.hid (Fit.made w (obL p s l) 49)
  have c0 := F0.out.box.cell 0 (by simp)
  have c1 := F0.out.box.cell 1 (by simp)
  have c2 := F0.out.box.cell 2 (by simp)
  generalize decide (Vis p s l t) = x at *
  have hx : (x != x) = false := by simp
  go_enter Try.func7, Try.ntmps7
  go_wp2_with fail
  refine (H1.out _).mono ?_
  rintro e w1 ⟨rfl, hb1⟩
  have F1 := Lib.hid (F0.out.more hb1)
  clear hb1 c0 c1 c2
  go_wp2_with fail
  refine (H2.out _).mono ?_
  rintro e w2 ⟨rfl, hb2⟩
  have F2 := Lib.hid (F1.out.more hb2)
  have c0 := F2.out.box.cell 0 (by simp)
  have c1 := F2.out.box.cell 1 (by simp)
  have c2 := F2.out.box.cell 2 (by simp)
  clear hb2
  go_wp2_with fail
  refine (H1.out _).mono ?_
  rintro e w3 ⟨rfl, hb3⟩
  have F3 := Lib.hid (F2.out.more hb3)
  clear hb3 c0 c1 c2
  go_wp2_with fail
  refine (H3.out _).mono ?_
  rintro e w4 ⟨rfl, hb4⟩
  have F4 := Lib.hid (F3.out.more hb4)
  clear hb4
  go_wp2
  go_ret
  exact ⟨rfl, F4.out.below⟩
set_option maxHeartbeats 1000000 in
theorem law_passof (p s l t : Int) (hp : -9223372036854775808 ≤ p ∧ p ≤ 9223372036854775807) (hs : -9223372036854775808 ≤ s ∧ s ≤ 9223372036854775807) (hl : -9223372036854775808 ≤ l ∧ l ≤ 9223372036854775807) (ht : -9223372036854775808 ≤ t ∧ t ≤ 9223372036854775807) (w : World) :
    Calls Try.prog 8 #[obV p s l, .int .i64 t] w fun e w' => e = .returned (.bool true) ∧ Below w.heap.size w w' := by
  have H1 := Lib.hid (to_ob p s l)
  have H2 := Lib.hid (pas_spec p s l t)
  have H3 := Lib.hid (pas_impl p s l t)
  have F0 := Lib.hid (Fit.made w (obL p s l) 49)
  have c0 := F0.out.box.cell 0 (by simp)
  have c1 := F0.out.box.cell 1 (by simp)
  have c2 := F0.out.box.cell 2 (by simp)
  generalize pasR p s l t = x at *
  have hx : (x != x) = false := by simp
  go_enter Try.func8, Try.ntmps8
  go_wp2_with fail
  refine (H1.out _).mono ?_
  rintro e w1 ⟨rfl, hb1⟩
  have F1 := Lib.hid (F0.out.more hb1)
  clear hb1 c0 c1 c2
  go_wp2_with fail
  refine (H2.out _).mono ?_
  rintro e w2 ⟨rfl, hb2⟩
  have F2 := Lib.hid (F1.out.more hb2)
  have c0 := F2.out.box.cell 0 (by simp)
  have c1 := F2.out.box.cell 1 (by simp)
  have c2 := F2.out.box.cell 2 (by simp)
  clear hb2
  go_wp2_with fail
  refine (H1.out _).mono ?_
  rintro e w3 ⟨rfl, hb3⟩
  have F3 := Lib.hid (F2.out.more hb3)
  clear hb3 c0 c1 c2
  go_wp2_with fail
  refine (H3.out _).mono ?_
  rintro e w4 ⟨rfl, hb4⟩
  have F4 := Lib.hid (F3.out.more hb4)
  clear hb4
  go_wp2
  go_ret
  exact ⟨rfl, F4.out.below⟩
end Go.Proofs.Ytdfcamlnebcbpaa
