/- What this text proves: the contracts of the model's and the program's BoardTime. -/
import Derived.Test.YtggfmimnmpanbaaDoorDrf
import Derived.Test.YtggfmimnmpanbaaDoorFlr
import Derived.BigRegion
import Derived.Outline
namespace Go.Proofs.YtggfmimnmpanbaaDoor
open Go.ChangeShapes Go.WideShapes Go.ChangeAt Go.RowKit
set_option linter.unusedVariables false

set_option maxHeartbeats 1000000 in
theorem bt_impl (r o t : Int) (w : World) :
    Calls Tryd.prog 13 #[drV r o, .int .i64 t] w fun e w' => e = .returned (.int .i64 (btI r o t)) ∧ Below w.heap.size w w' := by
  have B0 := Lib.hid (Box.made w (drL r o) 25 _ rfl)
  have HB := Lib.hid ((Below.refl _ w).alloc (Nat.le_refl _) (.cells (drL r o).toArray 25))
  have c0 := B0.out.cell 0 (by simp)
  have c1 := B0.out.cell 1 (by simp)
  by_cases h1 : DrOk r o
  · have H1 := dr_impl r o
    rw [decide_eq_true h1] at H1
    have H1 := Lib.hid H1
    by_cases h2 : 0 ≤ t ∧ t ≤ 1000000
    · have H2 := iw_anyD t 0 1000000
      rw [decide_eq_true h2] at H2
      have H2 := Lib.hid H2
      have hm := mul_bounds h1.1 h2
      have hy := btI_yes ⟨h1, h2⟩
      have H3 := fl_impl (t * r) 1000 (by omega) (by omega)
      obtain ⟨m, hmm⟩ : ∃ m, t * r = m := ⟨_, rfl⟩
      obtain ⟨⟨_, ho⟩⟩ := And.intro h1 trivial
      have w1 : IntKind.i64.wrap (t * r) = m := by rw [hmm]; exact IntWalk.i64_in _ (by omega)
      have w2 : IntKind.i64.wrap (t + o) = t + o := IntWalk.i64_in _ (by omega)
      have w1' : wrap64 (t * r) = m := by rw [hmm]; unfold wrap64; omega
      have w2' : wrap64 (t + o) = t + o := by unfold wrap64; omega
      rw [hmm] at H3 hy
      have w3 : IntKind.i64.wrap (t + o + m / 1000) = t + o + m / 1000 := IntWalk.i64_in _ (by omega)
      have w3' : wrap64 (t + o + m / 1000) = t + o + m / 1000 := by unfold wrap64; omega
      have H3 := Lib.hid H3
      have HY := Lib.hid hy.1
      clear h1 h2 hm hy ho hmm
      go_enter Tryd.func13, Tryd.ntmps13
      go_wp2_with fail
      refine (H1.out _).mono ?_
      rintro e w2 ⟨rfl, hb⟩
      have HB2 := Lib.hid (HB.out.trans (hb.mono HB.out.size))
      have d0 := (B0.out.more hb).cell 0 (by simp)
      have d1 := (B0.out.more hb).cell 1 (by simp)
      clear hb c0 c1
      go_wp2_with fail
      refine (H2.out _).mono ?_
      rintro e w3 ⟨rfl, rfl⟩
      go_wp2_with fail
      go_quiet ((go_at_call 34; exact Calls.quiet_of_same ((H3.out _).mono fun _ _ h => ⟨h.1, h.2.symm⟩)))
      go_wp2
      go_ret
      exact ⟨by rw [HY.out]; rfl, HB2.out.trans (below_draws (Below.refl _ _) _ |>.mono HB2.out.size)⟩
    · have H2 := iw_anyD t 0 1000000
      rw [decide_eq_false h2] at H2
      have H2 := Lib.hid H2
      have HY := Lib.hid (btI_no (r := r) (o := o) (t := t) (fun h => h2 h.2))
      clear h1 h2
      go_enter Tryd.func13, Tryd.ntmps13
      go_wp2_with fail
      refine (H1.out _).mono ?_
      rintro e w2 ⟨rfl, hb⟩
      have HB2 := Lib.hid (HB.out.trans (hb.mono HB.out.size))
      clear hb c0 c1
      go_wp2_with fail
      refine (H2.out _).mono ?_
      rintro e w3 ⟨rfl, rfl⟩
      go_wp2
      go_ret
      exact ⟨by rw [HY.out]; rfl, HB2.out⟩
  · have H1 := dr_impl r o
    rw [decide_eq_false h1] at H1
    have H1 := Lib.hid H1
    have HY := Lib.hid (btI_no (r := r) (o := o) (t := t) (fun h => h1 h.1))
    clear h1
    go_enter Tryd.func13, Tryd.ntmps13
    go_wp2_with fail
    refine (H1.out _).mono ?_
    rintro e w2 ⟨rfl, hb⟩
    have HB2 := Lib.hid (HB.out.trans (hb.mono HB.out.size))
    clear hb c0 c1
    go_wp2
    go_ret
    exact ⟨by rw [HY.out]; rfl, HB2.out⟩
end Go.Proofs.YtggfmimnmpanbaaDoor
