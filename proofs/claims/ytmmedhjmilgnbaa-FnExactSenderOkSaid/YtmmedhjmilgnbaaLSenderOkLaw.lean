/- What this text proves: the law of FnExactSenderOk: the program and the model answer alike, for every sender. -/
import Derived.Test.YtmmedhjmilgnbaaISo
import Derived.Test.YtmmedhjmilgnbaaSnd
import Derived.Deep.RegionHeld3
import Derived.Deep.Cut
import Derived.Deep.CutRange
namespace Go.Proofs.Ytmmedhjmilgnbaa
open Go.ChangeShapes Go.WideShapes Go.ChangeAt Go.RowKit
set_option linter.unusedVariables false

set_option maxHeartbeats 2000000 in
theorem law_senderok (n b : Int) (A : Option Addr) (l : List Sn) (k : Nat) (d : Int) (hl : l.length ≤ maxLen) (hs0 : ∀ j (hj : j < l.length), l[j].2.size ≤ maxLen) (w : World) (h : SnsAt w w.heap.size A l) :
    Calls Try.prog 4 #[seV n b (.slice A l.length k) d] w fun e w' => e = .returned (.bool true) ∧ Below w.heap.size w w' := by
  have F0 := Fit.made w (seL n b (.slice A l.length k) d) 37
  have hs := sz_snd n b d A l k 1048576 hl hs0 (Nat.le_refl _) _ ((h.more ((Below.refl _ w).alloc (Nat.le_refl _) (.cells (seL n b (.slice A l.length k) d).toArray 37))).raise (by simp))
  by_cases hL : l.length + totN l l.length ≤ 1048576
  · have hsz : ∀ j (hj : j < l.length), l[j].2.size ≤ 1100000 := fun j hj => by have := totN_at l hj; omega
    have HT := Lib.hid (fun W (hb : Below w.heap.size w W) => to_snd n b d A l k (by omega) W ((h.more hb).raise hb.size))
    have HX := Lib.hid (show ∀ A2 c2 W B, OwnN W B (.slice A2 l.length c2) l → Calls Try.prog 21 #[seV n b (.slice A2 l.length c2) d] W fun e w' => e = .returned (.bool (snB n b l d)) ∧ Below W.heap.size W w' from fun A2 c2 W B ho => so_spec n b d A2 l c2 (by omega) hsz W ho.ats)
    have HY := Lib.hid (show ∀ A2 c2 W B, OwnN W B (.slice A2 l.length c2) l → Calls Try.prog 23 #[seV n b (.slice A2 l.length c2) d] W fun e w' => e = .returned (.bool (snB n b l d)) ∧ Below W.heap.size W w' from fun A2 c2 W B ho => so_impl n b d A2 l c2 (by omega) hsz W ho.ats)
    have HE := Lib.hid (fun v1 v2 b1 b2 W => eq_snd n b d l (by omega) v1 v2 b1 b2 W)
    simp only [if_pos hL] at hs
    have hd0 : decide (1048576 - ((l.length : Int) + (totN l l.length : Int)) < 0) = false := by simp; omega
    have HS := Lib.hid hs
    clear hs h hs0 hsz
    generalize snB n b l d = r0 at *
    generalize (totN l l.length : Int) = tot at *
    have hself : (r0 != r0) = false := by simp
    go_enter Try.func4, Try.ntmps4
    go_wp2_with fail
    refine HS.out.mono ?_
    rintro e w1 ⟨rfl, hb1⟩
    have F1 := Lib.hid (F0.more hb1)
    obtain ⟨k0, k1, k2, k3⟩ := F1.out.box.fourS
    clear hb1 F0
    go_wp2_with fail
    refine (HT.out _ F1.out.below).mono ?_
    rintro e w2 ⟨A2, c2, rfl, ho2, hb2⟩
    have F2 := Lib.hid (F1.out.more hb2)
    have HX2 := Lib.hid (HX.out A2 c2 w2 _ ho2)
    clear hb2 k0 k1 k2 k3 ho2
    go_wp2_with fail
    refine (HX2.out).mono ?_
    rintro e w3 ⟨rfl, hb3⟩
    have F3 := Lib.hid (F2.out.more hb3)
    obtain ⟨k0, k1, k2, k3⟩ := F3.out.box.fourS
    clear hb3
    go_wp2_with fail
    refine (HT.out _ F3.out.below).mono ?_
    rintro e w4 ⟨A4, c4, rfl, ho4, hb4⟩
    have F4 := Lib.hid (F3.out.more hb4)
    have O4 := Lib.hid (OwnR.lower ho4 F3.out.below.size)
    clear hb4 k0 k1 k2 k3 ho4
    have F5 : Fit w (w4.alloc (.cells #[.int .i64 n, .int .i64 b, .slice A4 l.length c4, .int .i64 d] 42)) w.heap.size (seL n b (.slice A l.length k) d) := F4.out.more ((Below.refl _ _).alloc (Nat.le_refl _) _)
    have X5 : Fit w4 (w4.alloc (.cells #[.int .i64 n, .int .i64 b, .slice A4 l.length c4, .int .i64 d] 42)) w4.heap.size (seL n b (.slice A4 l.length c4) d) := Fit.made w4 (seL n b (.slice A4 l.length c4) d) _
    have O5 : OwnN (w4.alloc (.cells #[.int .i64 n, .int .i64 b, .slice A4 l.length c4, .int .i64 d] 42)) w.heap.size (.slice A4 l.length c4) l := OwnR.more O4.out ((Below.refl _ _).alloc (Nat.le_refl _) _)
    go_upto_region 7 with fail
    generalize w4.alloc (.cells #[.int .i64 n, .int .i64 b, .slice A4 l.length c4, .int .i64 d] 42) = w5 at *
    generalize w4.heap.size = g5 at *
    have HY5 := Lib.hid (HY.out A4 c4 w5 _ O5)
    obtain ⟨m0, m1, m2, m3⟩ := X5.box.fourS
    go_wp2_with fail
    refine (HY5.out).mono ?_
    rintro e w6 ⟨rfl, hb6⟩
    have F6 := Lib.hid (F5.more hb6).drew
    have X6 := Lib.hid (X5.more hb6).drew
    have O6 := Lib.hid (OwnR.more (OwnR.more O5 hb6) (Below.refl _ _).drew)
    clear hb6 m0 m1 m2 m3 F5 X5 O5
    obtain ⟨k0, k1, k2, k3⟩ := F6.out.box.fourS
    obtain ⟨m0, m1, m2, m3⟩ := X6.out.box.fourS
    have HT6 := Lib.hid ((HT.out _ F6.out.below).mono fun e w' h => (show ∃ A1 c1, e = .returned (seV n b (.slice A1 l.length c1) d) ∧ OwnN w' w.heap.size (.slice A1 l.length c1) l ∧ Below w6.drew.heap.size w6.drew w' ∧ Cells4S w' w.heap.size (.int .i64 n) (.int .i64 b) (.slice A l.length k) (.int .i64 d) ∧ Cells4S w' g5 (.int .i64 n) (.int .i64 b) (.slice A4 l.length c4) (.int .i64 d) from by
      obtain ⟨A1, c1, h1, h2, h3⟩ := h
      exact ⟨A1, c1, h1, OwnR.lower h2 F6.out.below.size, h3, (F6.out.more h3).box.fourS, (X6.out.more h3).box.fourS⟩))
    go_wp2
    go_region_held3 (fun w' => w'.cell? ⟨w.heap.size, 0, none⟩ = some (.int .i64 n) ∧ w'.cell? ⟨w.heap.size, 1, none⟩ = some (.int .i64 b) ∧ w'.cell? ⟨w.heap.size, 2, none⟩ = some (.slice A l.length k) ∧ w'.cell? ⟨w.heap.size, 3, none⟩ = some (.int .i64 d) ∧ w'.cell? ⟨g5, 0, none⟩ = some (.int .i64 n) ∧ w'.cell? ⟨g5, 1, none⟩ = some (.int .i64 b) ∧ w'.cell? ⟨g5, 2, none⟩ = some (.slice A4 l.length c4) ∧ w'.cell? ⟨g5, 3, none⟩ = some (.int .i64 d)) (first | exact ⟨k0, k1, k2, k3, m0, m1, m2, m3⟩ | exact ⟨l4, l5, l6, l7, l0, l1, l2, l3⟩ | exact ⟨n4, n5, n6, n7, n0, n1, n2, n3⟩)
      (first
        | (go_at_call 22; (with_reducible refine HT6.out.mono ?_); rintro e w7 ⟨A7, c7, rfl, O7, B7, ⟨l4, l5, l6, l7⟩, l0, l1, l2, l3⟩)
        | (go_at_call 24; (with_reducible refine (HE.out _ _ w.heap.size w.heap.size _ (OwnR.more O6.out B7) O7).mono ?_); rintro e w8 ⟨rfl, B8⟩; obtain ⟨n0, n1, n2, n3⟩ := ((X6.out.more B7).more B8).box.fourS; obtain ⟨n4, n5, n6, n7⟩ := ((F6.out.more B7).more B8).box.fourS))
    all_goals go_wp2
    all_goals go_ret
    all_goals exact ⟨rfl, ((F6.out.more B7).more B8).below⟩
  · simp only [if_neg hL] at hs
    have HS := Lib.hid hs
    clear hs h
    go_enter Try.func4, Try.ntmps4
    go_wp2_with fail
    refine HS.out.mono ?_
    rintro e w1 ⟨rfl, hb1⟩
    have F1 := Lib.hid (F0.more hb1)
    clear hb1 F0
    go_wp2
    go_ret
    exact ⟨rfl, F1.out.below⟩
end Go.Proofs.Ytmmedhjmilgnbaa
