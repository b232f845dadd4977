/- What this text proves: the law of FnExactPackerOk: the program and the model answer alike, for every packer. -/
import Derived.Test.YtcjeaahlhfoccaaIPo
import Derived.Test.YtcjeaahlhfoccaaPakC
import Derived.Test.YtcjeaahlhfoccaaPktE
import Derived.Deep.RegionHeld3
import Derived.Deep.Cut
import Derived.Deep.CutRange
namespace Go.Proofs.Ytcjeaahlhfoccaa
open Go.ChangeShapes Go.WideShapes Go.ChangeAt Go.RowKit
set_option linter.unusedVariables false

set_option maxHeartbeats 2000000 in
theorem law_packerok (c n : Int) (r : ByteArray) (A : Option Addr) (l : List Int) (k : Nat) (hr : r.size ≤ maxLen) (hl : l.length ≤ maxLen) (w : World) (h : IntsAt w w.heap.size A l) :
    Calls Try.prog 12 #[paV c n r (.slice A l.length k)] w fun e w' => e = .returned (.bool true) ∧ Below w.heap.size w w' := by
  have F0 := Fit.made w (paL c n r (.slice A l.length k)) 72
  have hs := fun W => sz_pak c n r A l.length k 1048576 (Nat.le_refl _) hr hl W
  by_cases hL : r.size + l.length ≤ 1048576
  · have HT := Lib.hid (fun W (hb : Below w.heap.size w W) => to_pak c n r A l k (by omega) W ((h.more hb).raise hb.size))
    have HX := Lib.hid (show ∀ v W, OwnI W w.heap.size v l → Calls Try.prog 45 #[paV c n r v] W fun e w' => e = .returned (.bool (paB c n r l)) ∧ Below W.heap.size W w' from fun v W ho => by
      obtain ⟨A2, c2, rfl⟩ := ho.form
      exact po_spec c n r A2 l c2 (by omega) (by omega) W ho.ints)
    have HY := Lib.hid (show ∀ v W, OwnI W w.heap.size v l → Calls Try.prog 30 #[paV c n r v] W fun e w' => e = .returned (.bool (paB c n r l)) ∧ Below W.heap.size W w' from fun v W ho => by
      obtain ⟨A2, c2, rfl⟩ := ho.form
      exact po_impl c n r A2 l c2 (by omega) (by omega) W ho.ints)
    have HE := Lib.hid (fun v1 v2 b1 b2 W => eq_pak c n r l (by omega) v1 v2 b1 b2 W)
    simp only [if_pos hL] at hs
    have hd0 : decide (1048576 - ((r.size : Int) + (l.length : Int)) < 0) = false := by simp; omega
    rw [show ((r.size + l.length : Nat) : Int) = (r.size : Int) + (l.length : Int) by omega] at hs
    have HS := Lib.hid hs
    clear hs h
    generalize paB c n r l = r0 at *
    have hself : (r0 != r0) = false := by simp
    go_enter Try.func12, Try.ntmps12
    go_wp2_with fail
    refine (HS.out _).mono ?_
    rintro e w1 ⟨rfl, hb1⟩
    have F1 := Lib.hid (F0.more hb1)
    obtain ⟨k0, k1, k2, k3⟩ := F1.out.box.fourP
    clear hb1 F0
    go_wp2_with fail
    refine (HT.out _ F1.out.below).mono ?_
    rintro e w2 ⟨v2, rfl, ho2, hb2⟩
    have F2 := Lib.hid (F1.out.more hb2)
    have HX2 := Lib.hid (HX.out v2 w2 (ho2.lower F1.out.below.size))
    clear hb2 k0 k1 k2 k3 ho2
    go_wp2_with fail
    refine (HX2.out).mono ?_
    rintro e w3 ⟨rfl, hb3⟩
    have F3 := Lib.hid (F2.out.more hb3)
    obtain ⟨k0, k1, k2, k3⟩ := F3.out.box.fourP
    clear hb3
    go_wp2_with fail
    refine (HT.out _ F3.out.below).mono ?_
    rintro e w4 ⟨v4, rfl, ho4, hb4⟩
    obtain ⟨A4, c4, hv4⟩ := ho4.form
    subst hv4
    have F4 := Lib.hid (F3.out.more hb4)
    have O4 := Lib.hid (ho4.lower F3.out.below.size)
    clear hb4 k0 k1 k2 k3 ho4
    have F5 : Fit w (w4.alloc (.cells #[.int .i64 c, .int .i64 n, .string r, .slice A4 l.length c4] 34)) w.heap.size (paL c n r (.slice A l.length k)) := F4.out.more ((Below.refl _ _).alloc (Nat.le_refl _) _)
    have X5 : Fit w4 (w4.alloc (.cells #[.int .i64 c, .int .i64 n, .string r, .slice A4 l.length c4] 34)) w4.heap.size (paL c n r (.slice A4 l.length c4)) := Fit.made w4 (paL c n r (.slice A4 l.length c4)) _
    have O5 : OwnI (w4.alloc (.cells #[.int .i64 c, .int .i64 n, .string r, .slice A4 l.length c4] 34)) w.heap.size (.slice A4 l.length c4) l := O4.out.more ((Below.refl _ _).alloc (Nat.le_refl _) _)
    go_upto_region 7 with fail
    generalize w4.alloc (.cells #[.int .i64 c, .int .i64 n, .string r, .slice A4 l.length c4] 34) = w5 at *
    generalize w4.heap.size = g5 at *
    have HY5 := Lib.hid (HY.out _ w5 O5)
    obtain ⟨m0, m1, m2, m3⟩ := X5.box.fourP
    go_wp2_with fail
    refine (HY5.out).mono ?_
    rintro e w6 ⟨rfl, hb6⟩
    have F6 := Lib.hid (F5.more hb6).drew
    have X6 := Lib.hid (X5.more hb6).drew
    have O6 := Lib.hid ((O5.more hb6).more (Below.refl _ _).drew)
    clear hb6 m0 m1 m2 m3 F5 X5 O5
    obtain ⟨k0, k1, k2, k3⟩ := F6.out.box.fourP
    obtain ⟨m0, m1, m2, m3⟩ := X6.out.box.fourP
    have HT6 := Lib.hid ((HT.out _ F6.out.below).mono fun e w' h => (show ∃ v, e = .returned (paV c n r v) ∧ OwnI w' w.heap.size v l ∧ Below w6.drew.heap.size w6.drew w' ∧ Cells4P w' w.heap.size (.int .i64 c) (.int .i64 n) (.string r) (.slice A l.length k) ∧ Cells4P w' g5 (.int .i64 c) (.int .i64 n) (.string r) (.slice A4 l.length c4) from by
      obtain ⟨v, h1, h2, h3⟩ := h
      exact ⟨v, h1, h2.lower F6.out.below.size, h3, (F6.out.more h3).box.fourP, (X6.out.more h3).box.fourP⟩))
    go_wp2
    go_region_held3 (fun w' => w'.cell? ⟨w.heap.size, 0, none⟩ = some (.int .i64 c) ∧ w'.cell? ⟨w.heap.size, 1, none⟩ = some (.int .i64 n) ∧ w'.cell? ⟨w.heap.size, 2, none⟩ = some (.string r) ∧ w'.cell? ⟨w.heap.size, 3, none⟩ = some (.slice A l.length k) ∧ w'.cell? ⟨g5, 0, none⟩ = some (.int .i64 c) ∧ w'.cell? ⟨g5, 1, none⟩ = some (.int .i64 n) ∧ w'.cell? ⟨g5, 2, none⟩ = some (.string r) ∧ w'.cell? ⟨g5, 3, none⟩ = some (.slice A4 l.length c4)) (first | exact ⟨k0, k1, k2, k3, m0, m1, m2, m3⟩ | exact ⟨l4, l5, l6, l7, l0, l1, l2, l3⟩ | exact ⟨n4, n5, n6, n7, n0, n1, n2, n3⟩)
      (first
        | (go_at_call 46; (with_reducible refine HT6.out.mono ?_); rintro e w7 ⟨v7, rfl, O7, B7, ⟨l4, l5, l6, l7⟩, l0, l1, l2, l3⟩)
        | (go_at_call 47; (with_reducible refine (HE.out _ _ w.heap.size w.heap.size _ (O6.out.more B7) O7).mono ?_); rintro e w8 ⟨rfl, B8⟩; obtain ⟨n0, n1, n2, n3⟩ := ((X6.out.more B7).more B8).box.fourP; obtain ⟨n4, n5, n6, n7⟩ := ((F6.out.more B7).more B8).box.fourP))
    all_goals go_wp2
    all_goals go_ret
    all_goals exact ⟨rfl, ((F6.out.more B7).more B8).below⟩
  · simp only [if_neg hL] at hs
    have HS := Lib.hid hs
    clear hs h
    go_enter Try.func12, Try.ntmps12
    go_wp2_with fail
    refine (HS.out _).mono ?_
    rintro e w1 ⟨rfl, hb1⟩
    have F1 := Lib.hid (F0.more hb1)
    clear hb1 F0
    go_wp2
    go_ret
    exact ⟨rfl, F1.out.below⟩
end Go.Proofs.Ytcjeaahlhfoccaa
