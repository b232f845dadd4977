/- What this text proves: the contracts of the model's and the program's TicksDue. -/
import Derived.Test.YtggfmimnmpanbaaBtm
import Derived.Test.YtggfmimnmpanbaaPktE
import Derived.Test.YtggfmimnmpanbaaQw
namespace Go.Proofs.Ytggfmimnmpanbaa
open Go.ChangeShapes Go.WideShapes Go.ChangeAt Go.RowKit
set_option linter.unusedVariables false

set_option maxRecDepth 20000 in
set_option maxHeartbeats 2000000 in
theorem td_impl (r o t : Int) (ht : -9223372036854775808 ≤ t ∧ t ≤ 9223372036854775807) (w : World) :
    Calls Try.prog 12 #[drV r o, .int .i64 t] w fun e w' => e = .returned (.int .i64 (tdI r o t)) ∧ Below w.heap.size w w' := by
  have F0 := Lib.hid (Fit.made w (drL r o) 25)
  have HB := Lib.hid ((Below.refl _ w).alloc (Nat.le_refl _) (.cells (drL r o).toArray 25))
  have hall : ∀ q : Prop, (InW (fun W => Fit w W w.heap.size (drL r o)) → q) ↔ q := fun q => ⟨fun h => h ⟨_, F0.out⟩, fun h _ => h⟩
  have c0 : ∀ p : InW (fun W => Fit w W w.heap.size (drL r o)), p.W.cell? ⟨w.heap.size, 0, none⟩ = some (.int .i64 r) := fun p => p.ok.box.cell 0 (by simp)
  have c1 : ∀ p : InW (fun W => Fit w W w.heap.size (drL r o)), p.W.cell? ⟨w.heap.size, 1, none⟩ = some (.int .i64 o) := fun p => p.ok.box.cell 1 (by simp)
  have H1 := Lib.hid (fun W (hW : Fit w W w.heap.size (drL r o)) => (bt_impl r o t W).mono fun e w' h => (show e = .returned (.int .i64 (btI r o t)) ∧ Fit w w' w.heap.size (drL r o) from ⟨h.1, hW.more h.2⟩))
  have F1 := Lib.hid (F0.out.more (Below.refl _ _).drew)
  by_cases hin : DrOk r o ∧ (0 ≤ t ∧ t ≤ 1000000)
  · have hy := btI_yes hin
    have w1 : IntKind.i64.wrap (t + 1) = t + 1 := IntWalk.i64_in _ (by omega)
    have w1' : wrap64 (t + 1) = t + 1 := by unfold wrap64; omega
    have H2 := Lib.hid (fun W (hW : Fit w W w.heap.size (drL r o)) => (bt_impl r o (t + 1) W).mono fun e w' h => (show e = .returned (.int .i64 (btI r o (t + 1))) ∧ Fit w w' w.heap.size (drL r o) from ⟨h.1, hW.more h.2⟩))
    have d1 : (btI r o t == -1) = false := by simp; omega
    by_cases hin2 : t ≤ 999999
    · have hz := btI_yes (t := t + 1) ⟨hin.1, by omega, by omega⟩
      have d2 : (btI r o (t + 1) == -1) = false := by simp; omega
      have w2 : IntKind.i64.wrap (btI r o (t + 1) - btI r o t) = btI r o (t + 1) - btI r o t := IntWalk.i64_in _ (by omega)
      have w2' : wrap64 (btI r o (t + 1) - btI r o t) = btI r o (t + 1) - btI r o t := by unfold wrap64; omega
      have HT := Lib.hid (show btI r o (t + 1) - btI r o t = tdI r o t from by unfold tdI; rw [if_pos ⟨hin.1, hin.2.1, hin2⟩])
      clear hin hin2 hy hz ht
      generalize btI r o (t + 1) = y at *
      generalize btI r o t = x at *
      go_enter Try.func12, Try.ntmps12
      go_wp2
      refine wp_region_inW (fun W => Fit w W w.heap.size (drL r o)) (by kernel_rfl) (by kernel_rfl) F1.out ?_
      repeat (go_big_quiet_step (first
        | (go_at_call 11; (first | (with_reducible exact calls_inW (C := fun W => Fit w W w.heap.size (drL r o)) (H1.out _ (InW.ok (C := fun W => Fit w W w.heap.size (drL r o)) _))) | (with_reducible exact calls_inW (C := fun W => Fit w W w.heap.size (drL r o)) (H2.out _ (InW.ok (C := fun W => Fit w W w.heap.size (drL r o)) _)))))))
      refine wpQuiet_nil ?_
      rintro _ ⟨⟨W2, F2⟩, rfl⟩
      go_wp2
      go_ret
      exact ⟨by rw [HT.out]; rfl, F2.below⟩
    · have hz := btI_no (r := r) (o := o) (t := t + 1) (fun h => hin2 (by omega))
      have d2 : (btI r o (t + 1) == -1) = true := by simpa using hz
      have HT := Lib.hid (show (0 : Int) = tdI r o t from by unfold tdI; rw [if_neg (fun h => hin2 h.2.2)])
      clear hin hin2 hy hz ht
      generalize btI r o (t + 1) = y at *
      generalize btI r o t = x at *
      go_enter Try.func12, Try.ntmps12
      go_wp2
      refine wp_region_inW (fun W => Fit w W w.heap.size (drL r o)) (by kernel_rfl) (by kernel_rfl) F1.out ?_
      repeat (go_big_quiet_step (first
        | (go_at_call 11; (first | (with_reducible exact calls_inW (C := fun W => Fit w W w.heap.size (drL r o)) (H1.out _ (InW.ok (C := fun W => Fit w W w.heap.size (drL r o)) _))) | (with_reducible exact calls_inW (C := fun W => Fit w W w.heap.size (drL r o)) (H2.out _ (InW.ok (C := fun W => Fit w W w.heap.size (drL r o)) _)))))))
      refine wpQuiet_nil ?_
      rintro _ ⟨⟨W2, F2⟩, rfl⟩
      go_wp2
      go_ret
      exact ⟨by rw [← HT.out]; rfl, F2.below⟩
  · have hy := btI_no hin
    obtain ⟨t1, k1, k2⟩ : ∃ t1, IntKind.i64.wrap (t + 1) = t1 ∧ wrap64 (t + 1) = t1 := ⟨wrap64 (t + 1), by rw [IntKind.wrap_i64]; unfold wrap64; omega, rfl⟩
    have H2 := Lib.hid (fun W (hW : Fit w W w.heap.size (drL r o)) => (bt_impl r o t1 W).mono fun e w' h => (show e = .returned (.int .i64 (btI r o t1)) ∧ Fit w w' w.heap.size (drL r o) from ⟨h.1, hW.more h.2⟩))
    have d1 : (btI r o t == -1) = true := by simpa using hy
    have HT := Lib.hid (show (0 : Int) = tdI r o t from by unfold tdI; rw [if_neg (fun h => hin ⟨h.1, h.2.1, by omega⟩)])
    clear hin hy ht
    generalize btI r o t1 = y at *
    generalize btI r o t = x at *
    go_enter Try.func12, Try.ntmps12
    go_wp2
    refine wp_region_inW (fun W => Fit w W w.heap.size (drL r o)) (by kernel_rfl) (by kernel_rfl) F1.out ?_
    repeat (go_big_quiet_step (first
      | (go_at_call 11; (first | (with_reducible exact calls_inW (C := fun W => Fit w W w.heap.size (drL r o)) (H1.out _ (InW.ok (C := fun W => Fit w W w.heap.size (drL r o)) _))) | (with_reducible exact calls_inW (C := fun W => Fit w W w.heap.size (drL r o)) (H2.out _ (InW.ok (C := fun W => Fit w W w.heap.size (drL r o)) _)))))))
    refine wpQuiet_nil ?_
    rintro _ ⟨⟨W2, F2⟩, rfl⟩
    go_wp2
    go_ret
    exact ⟨by rw [← HT.out]; rfl, F2.below⟩
set_option maxRecDepth 20000 in
set_option maxHeartbeats 2000000 in
theorem td_spec (r o t : Int) (w : World) :
    Calls Try.prog 17 #[drV r o, .int .i64 t] w fun e w' => e = .returned (.int .i64 (tdI r o t)) ∧ Below w.heap.size w w' := by
  have F0 := Lib.hid (Fit.made w (drL r o) 25)
  have HB := Lib.hid ((Below.refl _ w).alloc (Nat.le_refl _) (.cells (drL r o).toArray 25))
  have hall : ∀ q : Prop, (InW (fun W => Fit w W w.heap.size (drL r o)) → q) ↔ q := fun q => ⟨fun h => h ⟨_, F0.out⟩, fun h _ => h⟩
  have c0 : ∀ p : InW (fun W => Fit w W w.heap.size (drL r o)), p.W.cell? ⟨w.heap.size, 0, none⟩ = some (.int .i64 r) := fun p => p.ok.box.cell 0 (by simp)
  have c1 : ∀ p : InW (fun W => Fit w W w.heap.size (drL r o)), p.W.cell? ⟨w.heap.size, 1, none⟩ = some (.int .i64 o) := fun p => p.ok.box.cell 1 (by simp)
  have H1 := Lib.hid (fun W (hW : Fit w W w.heap.size (drL r o)) => (bt_spec r o t W).mono fun e w' h => (show e = .returned (.int .i64 (btI r o t)) ∧ Fit w w' w.heap.size (drL r o) from ⟨h.1, hW.more h.2⟩))
  have b0 := F0.out.box.cell 0 (by simp)
  have b1 := F0.out.box.cell 1 (by simp)
  have HI := in_anyP t 0 999999
  by_cases h2 : 0 ≤ t ∧ t ≤ 999999
  · rw [decide_eq_true h2] at HI
    have HI := Lib.hid HI
    have HD := dr_spec r o
    by_cases h1 : DrOk r o
    · rw [decide_eq_true h1] at HD
      have HD := Lib.hid HD
      have hs := bt_step h1 h2
      have hy := btI_yes (t := t) ⟨h1, by omega, by omega⟩
      have w1 : IntKind.i64.wrap (t + 1) = t + 1 := IntWalk.i64_in _ (by omega)
      have w1' : wrap64 (t + 1) = t + 1 := by unfold wrap64; omega
      have H2 := Lib.hid (fun W (hW : Fit w W w.heap.size (drL r o)) => (bt_spec r o (t + 1) W).mono fun e w' h => (show e = .returned (.int .i64 (btI r o (t + 1))) ∧ Fit w w' w.heap.size (drL r o) from ⟨h.1, hW.more h.2⟩))
      have w2 : IntKind.i64.wrap (btI r o (t + 1) - btI r o t) = btI r o (t + 1) - btI r o t := IntWalk.i64_in _ (by omega)
      have w2' : wrap64 (btI r o (t + 1) - btI r o t) = btI r o (t + 1) - btI r o t := by unfold wrap64; omega
      have HT := Lib.hid (show btI r o (t + 1) - btI r o t = tdI r o t from by unfold tdI; rw [if_pos ⟨h1, h2⟩])
      clear h1 h2 hs hy
      generalize btI r o (t + 1) = y at *
      generalize btI r o t = x at *
      go_enter Try.func17, Try.ntmps17
      go_wp2_with fail
      refine (HI.out _).mono ?_
      rintro e w2 ⟨rfl, rfl⟩
      go_wp2_with fail
      refine (HD.out _).mono ?_
      rintro e w2 ⟨rfl, hb⟩
      have F1 := Lib.hid ((F0.out.more hb).more (Below.refl _ _).drew)
      clear hb b0 b1
      go_wp2
      refine wp_region_inW (fun W => Fit w W w.heap.size (drL r o)) (by kernel_rfl) (by kernel_rfl) F1.out ?_
      repeat (go_big_quiet_step (first
        | (go_at_call 16; (first | (with_reducible exact calls_inW (C := fun W => Fit w W w.heap.size (drL r o)) (H1.out _ (InW.ok (C := fun W => Fit w W w.heap.size (drL r o)) _))) | (with_reducible exact calls_inW (C := fun W => Fit w W w.heap.size (drL r o)) (H2.out _ (InW.ok (C := fun W => Fit w W w.heap.size (drL r o)) _)))))))
      refine wpQuiet_nil ?_
      rintro _ ⟨⟨W2, F2⟩, rfl⟩
      go_wp2
      go_ret
      exact ⟨by rw [HT.out]; rfl, F2.below⟩
    · rw [decide_eq_false h1] at HD
      have HD := Lib.hid HD
      have HT := Lib.hid (show (0 : Int) = tdI r o t from by unfold tdI; rw [if_neg (fun h => h1 h.1)])
      clear h1 h2
      go_enter Try.func17, Try.ntmps17
      go_wp2_with fail
      refine (HI.out _).mono ?_
      rintro e w2 ⟨rfl, rfl⟩
      go_wp2_with fail
      refine (HD.out _).mono ?_
      rintro e w2 ⟨rfl, hb⟩
      have HF := Lib.hid (F0.out.more hb)
      clear hb b0 b1
      go_wp2
      go_ret
      exact ⟨by rw [← HT.out]; rfl, HF.out.below⟩
  · rw [decide_eq_false h2] at HI
    have HI := Lib.hid HI
    have HT := Lib.hid (show (0 : Int) = tdI r o t from by unfold tdI; rw [if_neg (fun h => h2 h.2)])
    clear h2
    go_enter Try.func17, Try.ntmps17
    go_wp2_with fail
    refine (HI.out _).mono ?_
    rintro e w2 ⟨rfl, rfl⟩
    go_wp2
    go_ret
    exact ⟨by rw [← HT.out]; rfl, HB.out⟩
end Go.Proofs.Ytggfmimnmpanbaa
