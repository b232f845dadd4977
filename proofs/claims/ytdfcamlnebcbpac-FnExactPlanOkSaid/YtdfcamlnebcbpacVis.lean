/- What this text proves: the contracts of the model's and the program's Visible and PassOf. -/
import Derived.Test.YtdfcamlnebcbpacOrb
import Derived.Test.YtdfcamlnebcbpacPktE
import Derived.Test.YtdfcamlnebcbpacQw
import Derived.BigRegion
import Derived.Outline
namespace Go.Proofs.Ytdfcamlnebcbpac
open Go.ChangeShapes Go.WideShapes Go.ChangeAt Go.RowKit
set_option linter.unusedVariables false

theorem tmod_of {a b : Int} (h : 0 ≤ a) : a.tmod b = a % b := Int.tmod_eq_emod_of_nonneg h
theorem tdiv_of {a b : Int} (h : 0 ≤ a) : a.tdiv b = a / b := Int.tdiv_eq_ediv_of_nonneg h
theorem vis_bool (p s l t : Int) (h : OrbOk p s l) (h2 : s ≤ t ∧ t ≤ 1000000) : decide (Vis p s l t) = decide ((t - s).tmod p < l) := by
  rw [tmod_of (by omega), Bool.eq_iff_iff, decide_eq_true_iff, decide_eq_true_iff]
  exact ⟨fun hh => hh.2.2, fun hh => ⟨h, h2, hh⟩⟩
theorem im_any (t : Int) (w : World) :
    Calls Try.prog 90 #[.int .i64 t] w fun e w' => e = .returned (.bool (decide (0 ≤ t ∧ t ≤ 1000000))) ∧ w = w' := by
  have H1 := Lib.hid (iw_anyD t 0 1000000)
  generalize decide (0 ≤ t ∧ t ≤ 1000000) = r at *
  go_enter Try.func90, Try.ntmps90
  go_wp2_with fail
  refine (H1.out _).mono ?_
  rintro e w' ⟨rfl, rfl⟩
  go_wp2
  go_ret
  exact ⟨rfl, rfl⟩
set_option maxRecDepth 20000 in
set_option maxHeartbeats 2000000 in
theorem vis_spec (p s l t : Int) (w : World) :
    Calls Try.prog 36 #[obV p s l, .int .i64 t] w fun e w' => e = .returned (.bool (decide (Vis p s l t))) ∧ Below w.heap.size w w' := by
  have F0 := Lib.hid (Fit.made w (obL p s l) 29)
  have F1 := Lib.hid (F0.out.more (Below.refl _ _).drew)
  have hall : ∀ q : Prop, (InW (fun W => Fit w W w.heap.size (obL p s l)) → q) ↔ q := fun q => ⟨fun h => h ⟨_, F0.out⟩, fun h _ => h⟩
  have c0 : ∀ u : InW (fun W => Fit w W w.heap.size (obL p s l)), u.W.cell? ⟨w.heap.size, 0, none⟩ = some (.int .i64 p) := fun u => u.ok.box.cell 0 (by simp)
  have c1 : ∀ u : InW (fun W => Fit w W w.heap.size (obL p s l)), u.W.cell? ⟨w.heap.size, 1, none⟩ = some (.int .i64 s) := fun u => u.ok.box.cell 1 (by simp)
  have c2 : ∀ u : InW (fun W => Fit w W w.heap.size (obL p s l)), u.W.cell? ⟨w.heap.size, 2, none⟩ = some (.int .i64 l) := fun u => u.ok.box.cell 2 (by simp)
  by_cases h1 : OrbOk p s l
  · have H1 := Lib.hid (fun W (hW : Fit w W w.heap.size (obL p s l)) => (ob_spec p s l W).mono fun e w' h => (show e = .returned (.bool (decide (OrbOk p s l))) ∧ Fit w w' w.heap.size (obL p s l) from ⟨h.1, hW.more h.2⟩))
    rw [decide_eq_true h1] at H1
    by_cases h2 : s ≤ t ∧ t ≤ 1000000
    · have H2 := Lib.hid (fun W (hW : Fit w W w.heap.size (obL p s l)) => (in_anyP t s 1000000 W).mono fun e w' h => (show e = .returned (.bool (decide (s ≤ t ∧ t ≤ 1000000))) ∧ Fit w w' w.heap.size (obL p s l) from ⟨h.1, by rw [← h.2]; exact hW⟩))
      rw [decide_eq_true h2] at H2
      obtain ⟨⟨a1, a2⟩, ⟨b1, b2⟩, c1', c2'⟩ := id h1
      have HV := Lib.hid (vis_bool p s l t h1 h2)
      have w1 : IntKind.i64.wrap (t - s) = t - s := IntWalk.i64_in _ (by omega)
      have w2 : wrap64 (t - s) = t - s := by unfold wrap64; omega
      have z0 : ¬ p = 0 := by omega
      obtain ⟨q, hq⟩ : ∃ q, (t - s).tmod p = q := ⟨_, rfl⟩
      rw [hq] at HV
      obtain ⟨r, hr⟩ : ∃ r, decide (q < l) = r := ⟨_, rfl⟩
      rw [hr] at HV
      clear h1 h2 a1 a2 b1 b2 c1' c2'
      go_enter Try.func36, Try.ntmps36
      go_wp2
      refine wp_region_inW (fun W => Fit w W w.heap.size (obL p s l)) (by kernel_rfl) (by kernel_rfl) F1.out ?_
      repeat (go_big_quiet_step (first | (go_at_call 39; (with_reducible exact calls_inW (C := fun W => Fit w W w.heap.size (obL p s l)) (H1.out _ (InW.ok (C := fun W => Fit w W w.heap.size (obL p s l)) _)))) | (go_at_call 37; (with_reducible exact calls_inW (C := fun W => Fit w W w.heap.size (obL p s l)) (H2.out _ (InW.ok (C := fun W => Fit w W w.heap.size (obL p s l)) _))))))
      refine wpQuiet_nil ?_
      rintro _ ⟨⟨W2, F2⟩, rfl⟩
      go_wp2
      go_ret
      exact ⟨by rw [HV.out]; first | done | rfl, F2.below⟩
    · have H2 := Lib.hid (fun W (hW : Fit w W w.heap.size (obL p s l)) => (in_anyP t s 1000000 W).mono fun e w' h => (show e = .returned (.bool (decide (s ≤ t ∧ t ≤ 1000000))) ∧ Fit w w' w.heap.size (obL p s l) from ⟨h.1, by rw [← h.2]; exact hW⟩))
      rw [decide_eq_false h2] at H2
      have HV := Lib.hid (show decide (Vis p s l t) = false from decide_eq_false (fun hh => h2 (hh.2.1)))
      clear h1 h2
      go_enter Try.func36, Try.ntmps36
      go_wp2
      refine wp_region_inW (fun W => Fit w W w.heap.size (obL p s l)) (by kernel_rfl) (by kernel_rfl) F1.out ?_
      repeat (go_big_quiet_step (first | (go_at_call 39; (with_reducible exact calls_inW (C := fun W => Fit w W w.heap.size (obL p s l)) (H1.out _ (InW.ok (C := fun W => Fit w W w.heap.size (obL p s l)) _)))) | (go_at_call 37; (with_reducible exact calls_inW (C := fun W => Fit w W w.heap.size (obL p s l)) (H2.out _ (InW.ok (C := fun W => Fit w W w.heap.size (obL p s l)) _))))))
      refine wpQuiet_nil ?_
      rintro _ ⟨⟨W2, F2⟩, rfl⟩
      go_wp2
      go_ret
      exact ⟨by rw [HV.out]; first | done | rfl, F2.below⟩
  · have H1 := Lib.hid (fun W (hW : Fit w W w.heap.size (obL p s l)) => (ob_spec p s l W).mono fun e w' h => (show e = .returned (.bool (decide (OrbOk p s l))) ∧ Fit w w' w.heap.size (obL p s l) from ⟨h.1, hW.more h.2⟩))
    rw [decide_eq_false h1] at H1
    have H2 := Lib.hid (fun W (hW : Fit w W w.heap.size (obL p s l)) => (in_anyP t s 1000000 W).mono fun e w' h => (show e = .returned (.bool (decide (s ≤ t ∧ t ≤ 1000000))) ∧ Fit w w' w.heap.size (obL p s l) from ⟨h.1, by rw [← h.2]; exact hW⟩))
    generalize decide (s ≤ t ∧ t ≤ 1000000) = u2 at H2
    have HV := Lib.hid (show decide (Vis p s l t) = false from decide_eq_false (fun hh => h1 hh.1))
    clear h1
    go_enter Try.func36, Try.ntmps36
    go_wp2
    refine wp_region_inW (fun W => Fit w W w.heap.size (obL p s l)) (by kernel_rfl) (by kernel_rfl) F1.out ?_
    repeat (go_big_quiet_step (first | (go_at_call 39; (with_reducible exact calls_inW (C := fun W => Fit w W w.heap.size (obL p s l)) (H1.out _ (InW.ok (C := fun W => Fit w W w.heap.size (obL p s l)) _)))) | (go_at_call 37; (with_reducible exact calls_inW (C := fun W => Fit w W w.heap.size (obL p s l)) (H2.out _ (InW.ok (C := fun W => Fit w W w.heap.size (obL p s l)) _))))))
    refine wpQuiet_nil ?_
    rintro _ ⟨⟨W2, F2⟩, rfl⟩
    go_wp2
    go_ret
    exact ⟨by rw [HV.out]; first | done | rfl, F2.below⟩
set_option maxRecDepth 20000 in
set_option maxHeartbeats 2000000 in
theorem vis_impl (p s l t : Int) (w : World) :
    Calls Try.prog 46 #[obV p s l, .int .i64 t] w fun e w' => e = .returned (.bool (decide (Vis p s l t))) ∧ Below w.heap.size w w' := by
  have F0 := Lib.hid (Fit.made w (obL p s l) 29)
  have F1 := Lib.hid (F0.out.more (Below.refl _ _).drew)
  have hall : ∀ q : Prop, (InW (fun W => Fit w W w.heap.size (obL p s l)) → q) ↔ q := fun q => ⟨fun h => h ⟨_, F0.out⟩, fun h _ => h⟩
  have c0 : ∀ u : InW (fun W => Fit w W w.heap.size (obL p s l)), u.W.cell? ⟨w.heap.size, 0, none⟩ = some (.int .i64 p) := fun u => u.ok.box.cell 0 (by simp)
  have c1 : ∀ u : InW (fun W => Fit w W w.heap.size (obL p s l)), u.W.cell? ⟨w.heap.size, 1, none⟩ = some (.int .i64 s) := fun u => u.ok.box.cell 1 (by simp)
  have c2 : ∀ u : InW (fun W => Fit w W w.heap.size (obL p s l)), u.W.cell? ⟨w.heap.size, 2, none⟩ = some (.int .i64 l) := fun u => u.ok.box.cell 2 (by simp)
  by_cases h1 : OrbOk p s l
  · have H1 := Lib.hid (fun W (hW : Fit w W w.heap.size (obL p s l)) => (ob_impl p s l W).mono fun e w' h => (show e = .returned (.bool (decide (OrbOk p s l))) ∧ Fit w w' w.heap.size (obL p s l) from ⟨h.1, hW.more h.2⟩))
    rw [decide_eq_true h1] at H1
    by_cases h2 : 0 ≤ t ∧ t ≤ 1000000
    · have H2 := Lib.hid (fun W (hW : Fit w W w.heap.size (obL p s l)) => (im_any t W).mono fun e w' h => (show e = .returned (.bool (decide (0 ≤ t ∧ t ≤ 1000000))) ∧ Fit w w' w.heap.size (obL p s l) from ⟨h.1, by rw [← h.2]; exact hW⟩))
      rw [decide_eq_true h2] at H2
      obtain ⟨⟨a1, a2⟩, ⟨b1, b2⟩, c1', c2'⟩ := id h1
      by_cases h3 : s ≤ t
      · have HV := Lib.hid (vis_bool p s l t h1 ⟨h3, h2.2⟩)
        have d3 : decide (s ≤ t) = true := decide_eq_true h3
        have w1 : IntKind.i64.wrap (t - s) = t - s := IntWalk.i64_in _ (by omega)
        have w2 : wrap64 (t - s) = t - s := by unfold wrap64; omega
        have z0 : ¬ p = 0 := by omega
        obtain ⟨q, hq⟩ : ∃ q, (t - s).tmod p = q := ⟨_, rfl⟩
        rw [hq] at HV
        obtain ⟨r, hr⟩ : ∃ r, decide (q < l) = r := ⟨_, rfl⟩
        rw [hr] at HV
        clear h1 h2 h3 a1 a2 b1 b2 c1' c2'
        go_enter Try.func46, Try.ntmps46
        go_wp2
        refine wp_region_inW (fun W => Fit w W w.heap.size (obL p s l)) (by kernel_rfl) (by kernel_rfl) F1.out ?_
        repeat (go_big_quiet_step (first | (go_at_call 43; (with_reducible exact calls_inW (C := fun W => Fit w W w.heap.size (obL p s l)) (H1.out _ (InW.ok (C := fun W => Fit w W w.heap.size (obL p s l)) _)))) | (go_at_call 90; (with_reducible exact calls_inW (C := fun W => Fit w W w.heap.size (obL p s l)) (H2.out _ (InW.ok (C := fun W => Fit w W w.heap.size (obL p s l)) _))))))
        refine wpQuiet_nil ?_
        rintro _ ⟨⟨W2, F2⟩, rfl⟩
        go_wp2
        go_ret
        exact ⟨by rw [HV.out]; first | done | rfl, F2.below⟩
      · have HV := Lib.hid (show decide (Vis p s l t) = false from decide_eq_false (fun hh => h3 hh.2.1.1))
        have d3 : decide (s ≤ t) = false := decide_eq_false h3
        clear h1 h2 h3 a1 a2 b1 b2 c1' c2'
        go_enter Try.func46, Try.ntmps46
        go_wp2
        refine wp_region_inW (fun W => Fit w W w.heap.size (obL p s l)) (by kernel_rfl) (by kernel_rfl) F1.out ?_
        repeat (go_big_quiet_step (first | (go_at_call 43; (with_reducible exact calls_inW (C := fun W => Fit w W w.heap.size (obL p s l)) (H1.out _ (InW.ok (C := fun W => Fit w W w.heap.size (obL p s l)) _)))) | (go_at_call 90; (with_reducible exact calls_inW (C := fun W => Fit w W w.heap.size (obL p s l)) (H2.out _ (InW.ok (C := fun W => Fit w W w.heap.size (obL p s l)) _))))))
        refine wpQuiet_nil ?_
        rintro _ ⟨⟨W2, F2⟩, rfl⟩
        go_wp2
        go_ret
        exact ⟨by rw [HV.out]; first | done | rfl, F2.below⟩
    · have H2 := Lib.hid (fun W (hW : Fit w W w.heap.size (obL p s l)) => (im_any t W).mono fun e w' h => (show e = .returned (.bool (decide (0 ≤ t ∧ t ≤ 1000000))) ∧ Fit w w' w.heap.size (obL p s l) from ⟨h.1, by rw [← h.2]; exact hW⟩))
      rw [decide_eq_false h2] at H2
      have HV := Lib.hid (show decide (Vis p s l t) = false from decide_eq_false (fun hh => h2 (⟨by have := hh.1.2.1.1; have := hh.2.1.1; omega, hh.2.1.2⟩)))
      clear h1 h2
      go_enter Try.func46, Try.ntmps46
      go_wp2
      refine wp_region_inW (fun W => Fit w W w.heap.size (obL p s l)) (by kernel_rfl) (by kernel_rfl) F1.out ?_
      repeat (go_big_quiet_step (first | (go_at_call 43; (with_reducible exact calls_inW (C := fun W => Fit w W w.heap.size (obL p s l)) (H1.out _ (InW.ok (C := fun W => Fit w W w.heap.size (obL p s l)) _)))) | (go_at_call 90; (with_reducible exact calls_inW (C := fun W => Fit w W w.heap.size (obL p s l)) (H2.out _ (InW.ok (C := fun W => Fit w W w.heap.size (obL p s l)) _))))))
      refine wpQuiet_nil ?_
      rintro _ ⟨⟨W2, F2⟩, rfl⟩
      go_wp2
      go_ret
      exact ⟨by rw [HV.out]; first | done | rfl, F2.below⟩
  · have H1 := Lib.hid (fun W (hW : Fit w W w.heap.size (obL p s l)) => (ob_impl p s l W).mono fun e w' h => (show e = .returned (.bool (decide (OrbOk p s l))) ∧ Fit w w' w.heap.size (obL p s l) from ⟨h.1, hW.more h.2⟩))
    rw [decide_eq_false h1] at H1
    have H2 := Lib.hid (fun W (hW : Fit w W w.heap.size (obL p s l)) => (im_any t W).mono fun e w' h => (show e = .returned (.bool (decide (0 ≤ t ∧ t ≤ 1000000))) ∧ Fit w w' w.heap.size (obL p s l) from ⟨h.1, by rw [← h.2]; exact hW⟩))
    generalize decide (0 ≤ t ∧ t ≤ 1000000) = u2 at H2
    have HV := Lib.hid (show decide (Vis p s l t) = false from decide_eq_false (fun hh => h1 hh.1))
    clear h1
    go_enter Try.func46, Try.ntmps46
    go_wp2
    refine wp_region_inW (fun W => Fit w W w.heap.size (obL p s l)) (by kernel_rfl) (by kernel_rfl) F1.out ?_
    repeat (go_big_quiet_step (first | (go_at_call 43; (with_reducible exact calls_inW (C := fun W => Fit w W w.heap.size (obL p s l)) (H1.out _ (InW.ok (C := fun W => Fit w W w.heap.size (obL p s l)) _)))) | (go_at_call 90; (with_reducible exact calls_inW (C := fun W => Fit w W w.heap.size (obL p s l)) (H2.out _ (InW.ok (C := fun W => Fit w W w.heap.size (obL p s l)) _))))))
    refine wpQuiet_nil ?_
    rintro _ ⟨⟨W2, F2⟩, rfl⟩
    go_wp2
    go_ret
    exact ⟨by rw [HV.out]; first | done | rfl, F2.below⟩
end Go.Proofs.Ytdfcamlnebcbpac
