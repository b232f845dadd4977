/- What this text proves: the law that a clock never goes backward, and that its ticks sum up to what it shows, returns true for every bytes that it draws from. -/
import Derived.Test.YtggfmimnmpanbaaDrd
import Derived.Test.YtggfmimnmpanbaaTkd
import Derived.Test.YtggfmimnmpanbaaAt
import Derived.Deep.LoopGhost
namespace Go.Proofs.Ytggfmimnmpanbaa
open Go.ChangeShapes Go.WideShapes Go.ChangeAt Go.RowKit
set_option linter.unusedVariables false

set_option maxRecDepth 20000 in
set_option maxHeartbeats 8000000 in
theorem law_clocks (A : Option Addr) (n c : Nat) (hm : n ≤ maxLen) (w : World) (hc : CodeOk w w.heap.size A n) :
    Calls Try.prog 3 #[.slice A n c] w fun e w' => e = .returned (.bool true) ∧ Below w.heap.size w w' := by
  by_cases hbig : 1048576 < n
  · go_enter Try.func3, Try.ntmps3
    go_wp2_with (go_at_call 9; refine (big_yes _ _ _ hbig hm _).mono ?_; rintro e w' ⟨rfl, rfl⟩)
    go_ret
    exact ⟨rfl, Below.refl _ _⟩
  · have hn : n ≤ 1048576 := by omega
    have HD := Lib.hid (draw_drift A n c hn w hc)
    clear hc hbig
    go_enter Try.func3, Try.ntmps3
    go_wp2_with (go_at_call 9; refine (big_no _ _ _ hn _).mono ?_; rintro e w' ⟨rfl, rfl⟩)
    refine HD.out.mono ?_
    rintro e w1 ⟨r, o, hro, rfl, hb1⟩
    have HR := Lib.hid hro
    have HBT := Lib.hid (fun t W => bt_impl r o t W)
    have HTD := Lib.hid (fun t ht W => td_impl r o t ht W)
    have HST := Lib.hid (fun t (ht : 0 ≤ t ∧ t ≤ 999999) => bt_step hro ht)
    have HIN := Lib.hid (fun t (ht : 0 ≤ t ∧ t ≤ 1000000) => (btI_yes ⟨hro, ht⟩).2)
    have F1 := Lib.hid (show Fit w (w1.alloc (.cells (drL r o).toArray 25)) w1.heap.size (drL r o) from ⟨hb1.alloc hb1.size _, Box.made w1 (drL r o) 25 _ rfl⟩)
    clear hb1 HD hro
    obtain ⟨k0, k1⟩ := And.intro (F1.out.box.cell 0 (by simp)) (F1.out.box.cell 1 (by simp))
    go_wp2_with fail
    refine (HBT.out _ _).mono ?_
    rintro e w2 ⟨rfl, hb⟩
    have F2 := Lib.hid (F1.out.more hb)
    clear hb F1 k0 k1
    generalize w1.heap.size = g at *
    go_wp2
    go_loopg [4, 5] 300 (fun gh v4 v5 wx => ∃ k : Nat, k ≤ 300 ∧ gh = 300 - k ∧ v5 = .int .i64 (k : Int) ∧ v4 = .int .i64 (btI r o (k : Int)) ∧ Fit w wx g (drL r o))
    case atStart => exact ⟨0, by omega, rfl, rfl, rfl, F2.out⟩
    case round =>
      obtain ⟨k, hk, rfl, rfl, rfl, hfit⟩ := hrel
      have HF := Lib.hid hfit
      obtain ⟨k0, k1⟩ := And.intro (hfit.box.cell 0 (by simp)) (hfit.box.cell 1 (by simp))
      clear hfit F2
      by_cases hlt : k < 300
      · have hd : decide (k < 300) = true := by simp; omega
        have hd' : decide ((k : Int) < 300) = true := by simp; omega
        obtain ⟨s1, s2, s3⟩ := HST.out (k : Int) (by omega)
        have b1 := HIN.out (k : Int) (by omega)
        have b2 := HIN.out ((k : Int) + 1) (by omega)
        have HT1 := Lib.hid (HTD.out (k : Int) (by omega))
        have HB1 := Lib.hid (HBT.out ((k : Int) + 1))
        generalize tdI r o (k : Int) = d at *
        generalize btI r o (k : Int) = x at *
        generalize hy : btI r o ((k : Int) + 1) = y at *
        have HY := Lib.hid hy
        have d1 : decide (d < 0) = false := by simp; omega
        have d2 : decide (2 < d) = false := by simp; omega
        have w1 : IntKind.i64.wrap (x + d) = y := by rw [s3]; exact IntWalk.i64_in _ (by omega)
        have w1' : wrap64 (x + d) = y := by unfold wrap64; omega
        have w2 : IntKind.i64.wrap ((k : Int) + 1) = (k : Int) + 1 := IntWalk.i64_in _ (by omega)
        have w2' : wrap64 ((k : Int) + 1) = (k : Int) + 1 := by unfold wrap64; omega
        have e1 : (y != y) = false := by simp
        clear hy s1 s2 s3 b1 b2 HST HIN HTD HBT
        go_wp2_with fail
        refine (HT1.out _).mono ?_
        rintro e w3 ⟨rfl, hb⟩
        have F3 := Lib.hid (HF.out.more hb)
        obtain ⟨m0, m1⟩ := And.intro (F3.out.box.cell 0 (by simp)) (F3.out.box.cell 1 (by simp))
        clear hb HF k0 k1
        go_wp2_with fail
        refine (HB1.out _).mono ?_
        rintro e w4 ⟨rfl, hb⟩
        have F4 := Lib.hid (F3.out.more hb)
        clear hb F3 m0 m1
        go_wp2
        go_roundg (300 - (k + 1))
        case measure => omega
        case rel => exact ⟨k + 1, by omega, rfl, by go_num, by rw [← HY.out]; simp, F4.out⟩
      · have hd : decide (k < 300) = false := by simp; omega
        have hd' : decide ((k : Int) < 300) = false := by simp; omega
        have hro := HR.out
        have hall : ∀ q : Prop, (InW (fun W => Fit w W g (drL r o)) → q) ↔ q := fun q => ⟨fun h => h ⟨_, HF.out⟩, fun h _ => h⟩
        have c0 : ∀ p : InW (fun W => Fit w W g (drL r o)), p.W.cell? ⟨g, 0, none⟩ = some (.int .i64 r) := fun p => p.ok.box.cell 0 (by simp)
        have c1 : ∀ p : InW (fun W => Fit w W g (drL r o)), p.W.cell? ⟨g, 1, none⟩ = some (.int .i64 o) := fun p => p.ok.box.cell 1 (by simp)
        have HD := Lib.hid (fun W (hW : Fit w W g (drL r o)) => (dr_impl r o W).mono fun e w' h => (show e = .returned (.bool true) ∧ Fit w w' g (drL r o) from ⟨by rw [h.1, decide_eq_true hro], hW.more h.2⟩))
        obtain ⟨z, hz⟩ : ∃ z, 1000 + r + o = z := ⟨_, rfl⟩
        obtain ⟨⟨r1, r2⟩, o1, o2⟩ := And.intro hro.1 hro.2
        have hbt : btI r o 1000 = z := by rw [(btI_yes (t := 1000) ⟨hro, by omega, by omega⟩).1]; omega
        have HB := Lib.hid (fun W (hW : Fit w W g (drL r o)) => (bt_impl r o 1000 W).mono fun e w' h => (show e = .returned (.int .i64 z) ∧ Fit w w' g (drL r o) from ⟨by rw [h.1, hbt], hW.more h.2⟩))
        have w1 : IntKind.i64.wrap (1000 + r) = 1000 + r := IntWalk.i64_in _ (by omega)
        have w1' : wrap64 (1000 + r) = 1000 + r := by unfold wrap64; omega
        have w2 : IntKind.i64.wrap (1000 + r + o) = z := by rw [hz]; exact IntWalk.i64_in _ (by omega)
        have w2' : wrap64 (1000 + r + o) = z := by unfold wrap64; omega
        have e1 : (z == z) = true := by simp
        have FD := Lib.hid (HF.out.more (Below.refl _ _).drew)
        clear hz hbt hro r1 r2 o1 o2 HST HIN HTD HBT HR hlt
        go_wp2
        refine wp_region_inW (fun W => Fit w W g (drL r o)) (by kernel_rfl) (by kernel_rfl) FD.out ?_
        repeat (go_big_quiet_step (first
          | (go_at_call 13; (with_reducible exact calls_inW (C := fun W => Fit w W g (drL r o)) (HD.out _ (InW.ok (C := fun W => Fit w W g (drL r o)) _))))
          | (go_at_call 11; (with_reducible exact calls_inW (C := fun W => Fit w W g (drL r o)) (HB.out _ (InW.ok (C := fun W => Fit w W g (drL r o)) _))))))
        refine wpQuiet_nil ?_
        rintro _ ⟨⟨W2, F9⟩, rfl⟩
        go_wp2
        go_ret
        exact ⟨rfl, F9.below⟩
end Go.Proofs.Ytggfmimnmpanbaa
