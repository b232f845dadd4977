/- What this text proves: the laws of FnExactRecorderOk and FnExactRoomLeft: the program and the model answer alike, for every recorder. -/
import Derived.Test.YtebfefkknaalpabRo
import Derived.Test.YtebfefkknaalpabSRo
import Derived.Test.YtebfefkknaalpabIRok
import Derived.Deep.RegionHeld3
import Derived.Deep.Cut
import Derived.Deep.CutRange
namespace Go.Proofs.Ytebfefkknaalpab
open Go.ChangeShapes Go.WideShapes Go.ChangeAt Go.RowKit
set_option linter.unusedVariables false


set_option maxHeartbeats 2000000 in
theorem law_roomleft (r : Int) (A : Option Addr) (l : List Rc) (c : Nat) (A2 : Option Addr) (d : List Int) (c2 : Nat) (hl : l.length ≤ maxLen) (hs0 : ∀ j (hj : j < l.length), l[j].2.2.2.size ≤ maxLen) (hd : d.length ≤ maxLen) (w : World) (h1 : LsI 4 w w.heap.size A (l.map rcC)) (h2 : LsI 1 w w.heap.size A2 (d.map inC)) :
    Calls Try.prog 3 #[roV r (.slice A l.length c) (.slice A2 d.length c2)] w fun e w' => e = .returned (.bool true) ∧ Below w.heap.size w w' := by
  have F0 := Fit.made w (roL r (.slice A l.length c) (.slice A2 d.length c2)) 25
  have hs := sz_ro r A A2 l d c c2 1048576 hl hs0 hd (Nat.le_refl _) _ (h1.full F0.below)
  by_cases hL : l.length + totRc l l.length + d.length ≤ 1048576
  · have HT := Lib.hid (fun W (hb : Below w.heap.size w W) => to_ro r A A2 l d c c2 (by omega) (by omega) W (h1.full hb) (h2.full hb))
    have HX := Lib.hid (show ∀ v W B, OwnRo W B v r l d → Calls Try.prog 10 #[v] W fun e w' => e = .returned (.int .i64 (leftR r l d)) ∧ Below W.heap.size W w' from fun v W B ho => by
      obtain ⟨A5, c5, B5, e5, rfl, q1, q2, _⟩ := ho.form
      exact left_spec r A5 B5 l d c5 e5 (by omega) (by omega) (by omega) W (LsO.ats q1) (LsO.ats q2))
    have HY := Lib.hid (show ∀ v W B, OwnRo W B v r l d → Calls Try.prog 12 #[v] W fun e w' => e = .returned (.int .i64 (leftR r l d)) ∧ Below W.heap.size W w' from fun v W B ho => by
      obtain ⟨A5, c5, B5, e5, rfl, q1, q2, _⟩ := ho.form
      exact left_impl r A5 B5 l d c5 e5 (by omega) (by omega) (by omega) W (LsO.ats q1) (LsO.ats q2))
    have HE := Lib.hid (fun v1 v2 b1 b2 W => eq_ro r l d (by omega) (by omega) v1 v2 b1 b2 W)
    simp only [if_pos hL] at hs
    have hd0 : decide (((1048576 - (l.length + totRc l l.length + d.length) : Nat) : Int) < 0) = false := decide_eq_false (by omega)
    generalize ((1048576 - (l.length + totRc l l.length + d.length) : Nat) : Int) = LE at *
    have HS := Lib.hid hs
    clear hs h1 h2 hs0
    generalize leftR r l d = r0 at *
    have hself : (r0 != r0) = false := by simp
    go_enter Try.func3, Try.ntmps3
    go_wp2_with fail
    refine HS.out.mono ?_
    rintro e w1 ⟨rfl, hb1⟩
    have F1 := Lib.hid (F0.more hb1)
    obtain ⟨k0, k1, k2⟩ := F1.out.box.threeQ
    clear hb1 F0
    go_wp2_with fail
    refine (HT.out _ F1.out.below).mono ?_
    rintro e w2 ⟨v2, rfl, ho2, hb2⟩
    have F2 := Lib.hid (F1.out.more hb2)
    have HX2 := Lib.hid (HX.out v2 w2 _ ho2)
    clear hb2 k0 k1 k2 ho2
    go_wp2_with fail
    refine (HX2.out).mono ?_
    rintro e w3 ⟨rfl, hb3⟩
    have F3 := Lib.hid (F2.out.more hb3)
    obtain ⟨k0, k1, k2⟩ := F3.out.box.threeQ
    clear hb3
    go_wp2_with fail
    refine (HT.out _ F3.out.below).mono ?_
    rintro e w4 ⟨v4, rfl, ho4, hb4⟩
    have F4 := Lib.hid (F3.out.more hb4)
    have O4 := OwnRo.lower ho4 F3.out.below.size
    obtain ⟨A4, c4, B4, e4, hv4, _, _, _⟩ := id O4.form
    subst hv4
    clear hb4 k0 k1 k2 ho4
    have F5 : Fit w (w4.alloc (.cells #[.int .i64 r, .slice A4 l.length c4, .slice B4 d.length e4] 30)) w.heap.size (roL r (.slice A l.length c) (.slice A2 d.length c2)) := F4.out.more ((Below.refl _ _).alloc (Nat.le_refl _) _)
    have X5 : Fit w4 (w4.alloc (.cells #[.int .i64 r, .slice A4 l.length c4, .slice B4 d.length e4] 30)) w4.heap.size (roL r (.slice A4 l.length c4) (.slice B4 d.length e4)) := Fit.made w4 (roL r (.slice A4 l.length c4) (.slice B4 d.length e4)) _
    have O5 : OwnRo (w4.alloc (.cells #[.int .i64 r, .slice A4 l.length c4, .slice B4 d.length e4] 30)) w.heap.size (roV r (.slice A4 l.length c4) (.slice B4 d.length e4)) r l d := O4.more ((Below.refl _ _).alloc (Nat.le_refl _) _)
    clear O4
    go_upto_region 7 with fail
    generalize w4.alloc (.cells #[.int .i64 r, .slice A4 l.length c4, .slice B4 d.length e4] 30) = w5 at *
    generalize w4.heap.size = g5 at *
    have HY5 := Lib.hid (HY.out _ w5 _ O5)
    obtain ⟨m0, m1, m2⟩ := X5.box.threeQ
    go_wp2_with fail
    refine (HY5.out).mono ?_
    rintro e w6 ⟨rfl, hb6⟩
    have F6 := Lib.hid (F5.more hb6).drew
    have X6 := Lib.hid (X5.more hb6).drew
    have O6 := Lib.hid (OwnRo.more (OwnRo.more O5 hb6) (Below.refl _ _).drew)
    clear hb6 m0 m1 m2 F5 X5 O5
    obtain ⟨k0, k1, k2⟩ := F6.out.box.threeQ
    obtain ⟨m0, m1, m2⟩ := X6.out.box.threeQ
    have HT6 := Lib.hid ((HT.out _ F6.out.below).mono fun e w' h => (show ∃ v, e = .returned v ∧ OwnRo w' w.heap.size v r l d ∧ Below w6.drew.heap.size w6.drew w' ∧ Cells3Q w' w.heap.size (.int .i64 r) (.slice A l.length c) (.slice A2 d.length c2) ∧ Cells3Q w' g5 (.int .i64 r) (.slice A4 l.length c4) (.slice B4 d.length e4) from by
      obtain ⟨v, h1, h2, h3⟩ := h
      exact ⟨v, h1, OwnRo.lower h2 F6.out.below.size, h3, (F6.out.more h3).box.threeQ, (X6.out.more h3).box.threeQ⟩))
    go_wp2
    go_region_held3 (fun w' => w'.cell? ⟨w.heap.size, 0, none⟩ = some (.int .i64 r) ∧ w'.cell? ⟨w.heap.size, 1, none⟩ = some (.slice A l.length c) ∧ w'.cell? ⟨w.heap.size, 2, none⟩ = some (.slice A2 d.length c2) ∧ w'.cell? ⟨g5, 0, none⟩ = some (.int .i64 r) ∧ w'.cell? ⟨g5, 1, none⟩ = some (.slice A4 l.length c4) ∧ w'.cell? ⟨g5, 2, none⟩ = some (.slice B4 d.length e4)) (first | exact ⟨k0, k1, k2, m0, m1, m2⟩ | exact ⟨l3, l4, l5, l0, l1, l2⟩ | exact ⟨n3, n4, n5, n0, n1, n2⟩)
      (first
        | (go_at_call 11; (with_reducible refine HT6.out.mono ?_); rintro e w7 ⟨v7, rfl, O7, B7, ⟨l3, l4, l5⟩, l0, l1, l2⟩)
        | (go_at_call 13; (with_reducible refine (HE.out _ _ w.heap.size w.heap.size _ (OwnRo.more O6.out B7) O7).mono ?_); rintro e w8 ⟨rfl, B8⟩; obtain ⟨n0, n1, n2⟩ := ((X6.out.more B7).more B8).box.threeQ; obtain ⟨n3, n4, n5⟩ := ((F6.out.more B7).more B8).box.threeQ))
    all_goals go_wp2
    all_goals go_ret
    all_goals exact ⟨rfl, ((F6.out.more B7).more B8).below⟩
  · simp only [if_neg hL] at hs
    have HS := Lib.hid hs
    clear hs h1 h2
    go_enter Try.func3, Try.ntmps3
    go_wp2_with fail
    refine HS.out.mono ?_
    rintro e w1 ⟨rfl, hb1⟩
    have F1 := Lib.hid (F0.more hb1)
    clear hb1 F0
    go_wp2
    go_ret
    exact ⟨rfl, F1.out.below⟩

end Go.Proofs.Ytebfefkknaalpab
