/- What this text proves: the parts IRok of the proof, each under its own words. -/
import Derived.Test.YtckofkdeedbbgaaNN21
import Derived.Test.YtckofkdeedbbgaaNN10
/- What this text proves: the contracts of the program's RecorderOk and RoomLeft. -/
namespace Go.Proofs.Ytckofkdeedbbgaa
open Go.ChangeShapes Go.WideShapes Go.ChangeAt Go.RowKit
set_option linter.unusedVariables false


set_option maxHeartbeats 4000000 in
theorem rcr_impl (r : Int) (A A2 : Option Addr) (l : List Rc) (d : List Int) (c c2 : Nat) (hl : l.length ≤ 2000000) (hs : totRc l l.length ≤ 4000000) (hd : d.length ≤ 2000000) (w : World) (h1 : LsI 4 w w.heap.size A (l.map rcC)) (h2 : LsI 1 w w.heap.size A2 (d.map inC)) :
    Calls Try.prog 19 #[roV r (.slice A l.length c) (.slice A2 d.length c2)] w fun e w' => e = .returned (.bool (rcrB r l d)) ∧ Below w.heap.size w w' := by
  have FA := Lib.hid (fun W (hf : Fit w W w.heap.size (roL r (.slice A l.length c) (.slice A2 d.length c2))) => (iw_any r 0 4000 W).mono fun e w' h => (show e = .returned (.bool (decide (0 ≤ r ∧ r ≤ 4000))) ∧ Fit w w' w.heap.size (roL r (.slice A l.length c) (.slice A2 d.length c2)) from ⟨h.1, h.2 ▸ hf⟩))
  have FB := Lib.hid (fun W (hf : Fit w W w.heap.size (roL r (.slice A l.length c) (.slice A2 d.length c2))) => (rok_impl A l c hl W (h1.full hf.below)).mono fun e w' h => (show e = .returned (.bool (upB l)) ∧ Fit w w' w.heap.size (roL r (.slice A l.length c) (.slice A2 d.length c2)) from ⟨h.1, hf.more h.2⟩))
  have FC := Lib.hid (fun W (hf : Fit w W w.heap.size (roL r (.slice A l.length c) (.slice A2 d.length c2))) => (so_rcd A l c hl hs W (h1.full hf.below)).mono fun e w' h => (show e = .returned (.int .i64 (useR l l.length : Nat)) ∧ Fit w w' w.heap.size (roL r (.slice A l.length c) (.slice A2 d.length c2)) from ⟨h.1, hf.more h.2⟩))
  have FD := Lib.hid (fun W (hf : Fit w W w.heap.size (roL r (.slice A l.length c) (.slice A2 d.length c2))) => (aw_impl A2 d c2 0 65535 hd W (h2.full hf.below)).mono fun e w' h => (show e = .returned (.bool (winB d 0 65535)) ∧ Fit w w' w.heap.size (roL r (.slice A l.length c) (.slice A2 d.length c2)) from ⟨h.1, h.2 ▸ hf⟩))
  have F1d := Lib.hid (Fit.made w (roL r (.slice A l.length c) (.slice A2 d.length c2)) 30).drew
  have F1 := Lib.hid (Fit.made w (roL r (.slice A l.length c) (.slice A2 d.length c2)) 30)
  clear h1 h2
  have hall : ∀ q : Prop, (InW (fun W => Fit w W w.heap.size (roL r (.slice A l.length c) (.slice A2 d.length c2))) → q) ↔ q := fun q => ⟨fun h => h ⟨_, F1d.out⟩, fun h _ => h⟩
  have k0 : ∀ p : InW (fun W => Fit w W w.heap.size (roL r (.slice A l.length c) (.slice A2 d.length c2))), p.W.cell? ⟨w.heap.size, 0, none⟩ = some (.int .i64 r) := fun p => p.ok.box.threeQ.1
  have k1 : ∀ p : InW (fun W => Fit w W w.heap.size (roL r (.slice A l.length c) (.slice A2 d.length c2))), p.W.cell? ⟨w.heap.size, 1, none⟩ = some (.slice A l.length c) := fun p => p.ok.box.threeQ.2.1
  have k2 : ∀ p : InW (fun W => Fit w W w.heap.size (roL r (.slice A l.length c) (.slice A2 d.length c2))), p.W.cell? ⟨w.heap.size, 2, none⟩ = some (.slice A2 d.length c2) := fun p => p.ok.box.threeQ.2.2
  by_cases g1 : 0 ≤ r ∧ r ≤ 4000
  · rw [decide_eq_true g1] at FA
    by_cases g2 : UpTo l l.length
    · rw [upB_yes g2] at FB
      by_cases g3 : (useR l l.length : Int) ≤ r
      · have hd3 : decide ((useR l l.length : Int) ≤ r) = true := decide_eq_true g3
        by_cases g4 : d.length ≤ 65536
        · have hd4 : decide (d.length ≤ 65536) = true := decide_eq_true g4
          have hd4' : decide ((d.length : Int) ≤ 65536) = true := by simp; omega
          by_cases g5 : Within d 0 65535
          · rw [winB_yes g5] at FD
            have HV := Lib.hid (rcrB_yes ⟨g1, g2, g3, g4, g5⟩)
            clear hs
            go_enter Try.func19, Try.ntmps19
            go_wp2
            refine wp_region_inW (fun W => Fit w W w.heap.size (roL r (.slice A l.length c) (.slice A2 d.length c2))) (by kernel_rfl) (by kernel_rfl) F1d.out ?_
            repeat (go_big_quiet_step (first
              | (go_at_call 60; exact calls_inW (C := fun W => Fit w W w.heap.size (roL r (.slice A l.length c) (.slice A2 d.length c2))) (FA.out _ (InW.ok (C := fun W => Fit w W w.heap.size (roL r (.slice A l.length c) (.slice A2 d.length c2))) _)))
              | (go_at_call 69; exact calls_inW (C := fun W => Fit w W w.heap.size (roL r (.slice A l.length c) (.slice A2 d.length c2))) (FB.out _ (InW.ok (C := fun W => Fit w W w.heap.size (roL r (.slice A l.length c) (.slice A2 d.length c2))) _)))
              | (go_at_call 70; exact calls_inW (C := fun W => Fit w W w.heap.size (roL r (.slice A l.length c) (.slice A2 d.length c2))) (FC.out _ (InW.ok (C := fun W => Fit w W w.heap.size (roL r (.slice A l.length c) (.slice A2 d.length c2))) _)))
              | (go_at_call 62; exact calls_inW (C := fun W => Fit w W w.heap.size (roL r (.slice A l.length c) (.slice A2 d.length c2))) (FD.out _ (InW.ok (C := fun W => Fit w W w.heap.size (roL r (.slice A l.length c) (.slice A2 d.length c2))) _)))))
            refine wpQuiet_nil ?_
            rintro _ ⟨⟨W2, F2⟩, rfl⟩
            go_wp2
            go_ret
            exact ⟨by rw [HV.out]; rfl, F2.below⟩
          · rw [winB_no g5] at FD
            have HV := Lib.hid (rcrB_no (r := r) (l := l) (d := d) (fun h => g5 h.2.2.2.2))
            clear hs
            go_enter Try.func19, Try.ntmps19
            go_wp2
            refine wp_region_inW (fun W => Fit w W w.heap.size (roL r (.slice A l.length c) (.slice A2 d.length c2))) (by kernel_rfl) (by kernel_rfl) F1d.out ?_
            repeat (go_big_quiet_step (first
              | (go_at_call 60; exact calls_inW (C := fun W => Fit w W w.heap.size (roL r (.slice A l.length c) (.slice A2 d.length c2))) (FA.out _ (InW.ok (C := fun W => Fit w W w.heap.size (roL r (.slice A l.length c) (.slice A2 d.length c2))) _)))
              | (go_at_call 69; exact calls_inW (C := fun W => Fit w W w.heap.size (roL r (.slice A l.length c) (.slice A2 d.length c2))) (FB.out _ (InW.ok (C := fun W => Fit w W w.heap.size (roL r (.slice A l.length c) (.slice A2 d.length c2))) _)))
              | (go_at_call 70; exact calls_inW (C := fun W => Fit w W w.heap.size (roL r (.slice A l.length c) (.slice A2 d.length c2))) (FC.out _ (InW.ok (C := fun W => Fit w W w.heap.size (roL r (.slice A l.length c) (.slice A2 d.length c2))) _)))
              | (go_at_call 62; exact calls_inW (C := fun W => Fit w W w.heap.size (roL r (.slice A l.length c) (.slice A2 d.length c2))) (FD.out _ (InW.ok (C := fun W => Fit w W w.heap.size (roL r (.slice A l.length c) (.slice A2 d.length c2))) _)))))
            refine wpQuiet_nil ?_
            rintro _ ⟨⟨W2, F2⟩, rfl⟩
            go_wp2
            go_ret
            exact ⟨by rw [HV.out]; rfl, F2.below⟩
        · have hd4 : decide (d.length ≤ 65536) = false := decide_eq_false g4
          have hd4' : decide ((d.length : Int) ≤ 65536) = false := by simp; omega
          have HV := Lib.hid (rcrB_no (r := r) (l := l) (d := d) (fun h => g4 h.2.2.2.1))
          clear hs
          go_enter Try.func19, Try.ntmps19
          go_wp2
          refine wp_region_inW (fun W => Fit w W w.heap.size (roL r (.slice A l.length c) (.slice A2 d.length c2))) (by kernel_rfl) (by kernel_rfl) F1d.out ?_
          repeat (go_big_quiet_step (first
            | (go_at_call 60; exact calls_inW (C := fun W => Fit w W w.heap.size (roL r (.slice A l.length c) (.slice A2 d.length c2))) (FA.out _ (InW.ok (C := fun W => Fit w W w.heap.size (roL r (.slice A l.length c) (.slice A2 d.length c2))) _)))
            | (go_at_call 69; exact calls_inW (C := fun W => Fit w W w.heap.size (roL r (.slice A l.length c) (.slice A2 d.length c2))) (FB.out _ (InW.ok (C := fun W => Fit w W w.heap.size (roL r (.slice A l.length c) (.slice A2 d.length c2))) _)))
            | (go_at_call 70; exact calls_inW (C := fun W => Fit w W w.heap.size (roL r (.slice A l.length c) (.slice A2 d.length c2))) (FC.out _ (InW.ok (C := fun W => Fit w W w.heap.size (roL r (.slice A l.length c) (.slice A2 d.length c2))) _)))))
          refine wpQuiet_nil ?_
          rintro _ ⟨⟨W2, F2⟩, rfl⟩
          go_wp2
          go_ret
          exact ⟨by rw [HV.out]; rfl, F2.below⟩
      · have hd3 : decide ((useR l l.length : Int) ≤ r) = false := decide_eq_false g3
        have HV := Lib.hid (rcrB_no (r := r) (l := l) (d := d) (fun h => g3 h.2.2.1))
        clear hs
        go_enter Try.func19, Try.ntmps19
        go_wp2
        refine wp_region_inW (fun W => Fit w W w.heap.size (roL r (.slice A l.length c) (.slice A2 d.length c2))) (by kernel_rfl) (by kernel_rfl) F1d.out ?_
        repeat (go_big_quiet_step (first
          | (go_at_call 60; exact calls_inW (C := fun W => Fit w W w.heap.size (roL r (.slice A l.length c) (.slice A2 d.length c2))) (FA.out _ (InW.ok (C := fun W => Fit w W w.heap.size (roL r (.slice A l.length c) (.slice A2 d.length c2))) _)))
          | (go_at_call 69; exact calls_inW (C := fun W => Fit w W w.heap.size (roL r (.slice A l.length c) (.slice A2 d.length c2))) (FB.out _ (InW.ok (C := fun W => Fit w W w.heap.size (roL r (.slice A l.length c) (.slice A2 d.length c2))) _)))
          | (go_at_call 70; exact calls_inW (C := fun W => Fit w W w.heap.size (roL r (.slice A l.length c) (.slice A2 d.length c2))) (FC.out _ (InW.ok (C := fun W => Fit w W w.heap.size (roL r (.slice A l.length c) (.slice A2 d.length c2))) _)))))
        refine wpQuiet_nil ?_
        rintro _ ⟨⟨W2, F2⟩, rfl⟩
        go_wp2
        go_ret
        exact ⟨by rw [HV.out]; rfl, F2.below⟩
    · rw [upB_no g2] at FB
      have HV := Lib.hid (rcrB_no (r := r) (l := l) (d := d) (fun h => g2 h.2.1))
      clear hs
      go_enter Try.func19, Try.ntmps19
      go_wp2
      refine wp_region_inW (fun W => Fit w W w.heap.size (roL r (.slice A l.length c) (.slice A2 d.length c2))) (by kernel_rfl) (by kernel_rfl) F1d.out ?_
      repeat (go_big_quiet_step (first
        | (go_at_call 60; exact calls_inW (C := fun W => Fit w W w.heap.size (roL r (.slice A l.length c) (.slice A2 d.length c2))) (FA.out _ (InW.ok (C := fun W => Fit w W w.heap.size (roL r (.slice A l.length c) (.slice A2 d.length c2))) _)))
        | (go_at_call 69; exact calls_inW (C := fun W => Fit w W w.heap.size (roL r (.slice A l.length c) (.slice A2 d.length c2))) (FB.out _ (InW.ok (C := fun W => Fit w W w.heap.size (roL r (.slice A l.length c) (.slice A2 d.length c2))) _)))))
      refine wpQuiet_nil ?_
      rintro _ ⟨⟨W2, F2⟩, rfl⟩
      go_wp2
      go_ret
      exact ⟨by rw [HV.out]; rfl, F2.below⟩
  · rw [decide_eq_false g1] at FA
    have HV := Lib.hid (rcrB_no (r := r) (l := l) (d := d) (fun h => g1 h.1))
    clear hs
    go_enter Try.func19, Try.ntmps19
    go_wp2
    refine wp_region_inW (fun W => Fit w W w.heap.size (roL r (.slice A l.length c) (.slice A2 d.length c2))) (by kernel_rfl) (by kernel_rfl) F1d.out ?_
    repeat (go_big_quiet_step (first
      | (go_at_call 60; exact calls_inW (C := fun W => Fit w W w.heap.size (roL r (.slice A l.length c) (.slice A2 d.length c2))) (FA.out _ (InW.ok (C := fun W => Fit w W w.heap.size (roL r (.slice A l.length c) (.slice A2 d.length c2))) _)))))
    refine wpQuiet_nil ?_
    rintro _ ⟨⟨W2, F2⟩, rfl⟩
    go_wp2
    go_ret
    exact ⟨by rw [HV.out]; rfl, F2.below⟩

set_option maxHeartbeats 1000000 in
theorem left_impl (r : Int) (A A2 : Option Addr) (l : List Rc) (d : List Int) (c c2 : Nat) (hl : l.length ≤ 2000000) (hs : totRc l l.length ≤ 4000000) (hd : d.length ≤ 2000000) (w : World) (h1 : LsI 4 w w.heap.size A (l.map rcC)) (h2 : LsI 1 w w.heap.size A2 (d.map inC)) :
    Calls Try.prog 20 #[roV r (.slice A l.length c) (.slice A2 d.length c2)] w fun e w' => e = .returned (.int .i64 (leftR r l d)) ∧ Below w.heap.size w w' := by
  have F0 := Fit.made w (roL r (.slice A l.length c) (.slice A2 d.length c2)) 30
  have HK := Lib.hid (rcr_impl r A A2 l d c c2 hl hs hd _ (h1.full F0.below) (h2.full F0.below))
  have HU := Lib.hid (fun W (hf : Fit w W w.heap.size (roL r (.slice A l.length c) (.slice A2 d.length c2))) => (so_rcd A l c hl hs W (h1.full hf.below)).mono fun e w' h => (show e = .returned (.int .i64 (useR l l.length : Nat)) ∧ Fit w w' w.heap.size (roL r (.slice A l.length c) (.slice A2 d.length c2)) from ⟨h.1, hf.more h.2⟩))
  have F0 := Lib.hid F0
  clear h1 h2
  by_cases g : RcrOk r l d
  · rw [rcrB_yes g] at HK
    have HV := Lib.hid (leftR_yes g)
    have hw : IntKind.i64.wrap (r - ((useR l l.length : Nat) : Int)) = r - ((useR l l.length : Nat) : Int) := IntWalk.i64_in _ (by have := g.1; have := g.2.2.1; omega)
    clear hs g
    go_enter Try.func20, Try.ntmps20
    go_wp2_with fail
    refine HK.out.mono ?_
    rintro e w1 ⟨rfl, hb⟩
    have F1 := Lib.hid (F0.out.more hb)
    have hall : ∀ q : Prop, (InW (fun W => Fit w W w.heap.size (roL r (.slice A l.length c) (.slice A2 d.length c2))) → q) ↔ q := fun q => ⟨fun h => h ⟨_, F1.out⟩, fun h _ => h⟩
    have k0 : ∀ p : InW (fun W => Fit w W w.heap.size (roL r (.slice A l.length c) (.slice A2 d.length c2))), p.W.cell? ⟨w.heap.size, 0, none⟩ = some (.int .i64 r) := fun p => p.ok.box.threeQ.1
    have k1 : ∀ p : InW (fun W => Fit w W w.heap.size (roL r (.slice A l.length c) (.slice A2 d.length c2))), p.W.cell? ⟨w.heap.size, 1, none⟩ = some (.slice A l.length c) := fun p => p.ok.box.threeQ.2.1
    clear hb
    go_wp2
    refine wp_region_inW (fun W => Fit w W w.heap.size (roL r (.slice A l.length c) (.slice A2 d.length c2))) (by kernel_rfl) (by kernel_rfl) F1.out.drew ?_
    repeat (go_big_quiet_step ((go_at_call 70; exact calls_inW (C := fun W => Fit w W w.heap.size (roL r (.slice A l.length c) (.slice A2 d.length c2))) (HU.out _ (InW.ok (C := fun W => Fit w W w.heap.size (roL r (.slice A l.length c) (.slice A2 d.length c2))) _)))))
    refine wpQuiet_nil ?_
    rintro _ ⟨⟨W2, F2⟩, rfl⟩
    go_wp2
    go_ret
    exact ⟨by rw [HV.out]; rfl, F2.below⟩
  · rw [rcrB_no g] at HK
    have HV := Lib.hid (leftR_no g)
    clear hs g
    go_enter Try.func20, Try.ntmps20
    go_wp2_with fail
    refine HK.out.mono ?_
    rintro e w1 ⟨rfl, hb⟩
    have F1 := Lib.hid (F0.out.more hb)
    clear hb
    go_wp2
    go_ret
    exact ⟨by rw [HV.out]; rfl, F1.out.below⟩

end Go.Proofs.Ytckofkdeedbbgaa
