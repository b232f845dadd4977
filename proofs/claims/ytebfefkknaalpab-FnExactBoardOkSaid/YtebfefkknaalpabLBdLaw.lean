/- What this text proves: the law of FnExactBoardOk: the program and the model answer alike, for every board. -/
import Derived.Test.YtebfefkknaalpabBrTo
import Derived.Test.YtebfefkknaalpabSBb
import Derived.Test.YtebfefkknaalpabIBb
import Derived.Deep.RegionHeld3
import Derived.Deep.Cut
import Derived.Deep.CutRange
namespace Go.Proofs.Ytebfefkknaalpab
open Go.ChangeShapes Go.WideShapes Go.ChangeAt Go.RowKit
set_option linter.unusedVariables false


theorem bd12 {W : World} {g : Nat} {b : Bd} {a : BdA} (h : Box W g (bdL b a)) : W.cell? ⟨g, 0, none⟩ = some (.int .i64 b.cl) ∧ W.cell? ⟨g, 1, none⟩ = some (.slice a.aP b.ps.length a.cP) ∧ W.cell? ⟨g, 2, none⟩ = some (.bool b.sf) ∧ W.cell? ⟨g, 3, none⟩ = some (.slice a.aL b.ls.length a.cL) ∧ W.cell? ⟨g, 4, none⟩ = some (.slice a.aO b.os.length a.cO) ∧ W.cell? ⟨g, 5, none⟩ = some (.slice a.aD b.ds.length a.cD) ∧ W.cell? ⟨g, 6, none⟩ = some (.int .i64 b.r) ∧ W.cell? ⟨g, 7, none⟩ = some (.slice a.aR b.rs.length a.cR) ∧ W.cell? ⟨g, 8, none⟩ = some (.slice a.aX b.xs.length a.cX) ∧ W.cell? ⟨g, 9, none⟩ = some (.int .i64 b.md) ∧ W.cell? ⟨g, 10, none⟩ = some (.int .i64 b.tk) ∧ W.cell? ⟨g, 11, none⟩ = some (.slice a.aQ b.qs.length a.cQ) :=
  ⟨h.cell 0 (by simp), h.cell 1 (by simp), h.cell 2 (by simp), h.cell 3 (by simp), h.cell 4 (by simp), h.cell 5 (by simp), h.cell 6 (by simp), h.cell 7 (by simp), h.cell 8 (by simp), h.cell 9 (by simp), h.cell 10 (by simp), h.cell 11 (by simp)⟩

set_option maxRecDepth 20000 in
set_option maxHeartbeats 8000000 in
theorem law_boardok (b : Bd) (a : BdA) (hm : BdMax b) (w : World) (h : BdAt w w.heap.size b a) :
    Calls Try.prog 6 #[bdV b a] w fun e w' => e = .returned (.bool true) ∧ Below w.heap.size w w' := by
  have F0 := Lib.hid (Fit.made w (bdL b a) 51)
  have HS := Lib.hid (sz_bd b a hm 1048576 (Nat.le_refl _) _ (h.full F0.out.below))
  obtain ⟨k0, k1, k2, k3, k4, k5, k6, k7, k8, k9, k10, k11⟩ := bd12 F0.out.box
  go_enter Try.func6, Try.ntmps6
  go_wp2_with fail
  refine HS.out.mono ?_
  rintro e w1 ⟨x, rfl, hx, hf⟩
  have F1 := Lib.hid (F0.out.more hf.below)
  clear hf HS F0 k0 k1 k2 k3 k4 k5 k6 k7 k8 k9 k10 k11
  rcases hx with ⟨hle, rfl⟩ | ⟨hlt, rfl⟩
  rotate_left
  · clear hlt
    go_wp2
    go_ret
    exact ⟨rfl, F1.out.below⟩
  have hd0 : decide (((1048576 - bdSum b : Nat) : Int) < 0) = false := by simp
  generalize ((1048576 - bdSum b : Nat) : Int) = LE at *
  unfold bdSum at hle
  have HZ := Lib.hid (show BdSz b from ⟨by omega, by omega, by omega, by omega, by omega, by omega, by omega, by omega⟩)
  have HT := Lib.hid (fun W (hb : Below w.heap.size w W) => to_bd b a (by omega) (by omega) (by omega) (by omega) (by omega) (by omega) (by omega) W (h.full hb))
  have HX := Lib.hid (show ∀ v W B, OwnBd W B v b → Calls Try.prog 26 #[v] W fun e w' => e = .returned (.bool (brdB b)) ∧ Below W.heap.size W w' from fun v W B ho => by
    obtain ⟨a5, rfl, q⟩ := ho.at
    exact board_spec b a5 HZ.out W q)
  have HY := Lib.hid (show ∀ v W B, OwnBd W B v b → Calls Try.prog 28 #[v] W fun e w' => e = .returned (.bool (brdB b)) ∧ Below W.heap.size W w' from fun v W B ho => by
    obtain ⟨a5, rfl, q⟩ := ho.at
    exact board_impl b a5 HZ.out W q)
  have HE := Lib.hid (fun v1 v2 b1 b2 W => eq_bd b HZ.out v1 v2 b1 b2 W)
  clear hle h hm
  generalize brdB b = r0 at *
  have hself : (r0 != r0) = false := by simp
  obtain ⟨k0, k1, k2, k3, k4, k5, k6, k7, k8, k9, k10, k11⟩ := bd12 F1.out.box
  go_wp2_with fail
  refine (HT.out _ F1.out.below).mono ?_
  rintro e w2 ⟨v2, rfl, ho2, hb2⟩
  have F2 := Lib.hid (F1.out.more hb2)
  have HX2 := Lib.hid (HX.out v2 w2 _ ho2)
  clear hb2 ho2 F1 k0 k1 k2 k3 k4 k5 k6 k7 k8 k9 k10 k11
  go_wp2_with fail
  refine (HX2.out).mono ?_
  rintro e w3 ⟨rfl, hb3⟩
  have F3 := Lib.hid (F2.out.more hb3)
  clear hb3 F2 HX2
  obtain ⟨k0, k1, k2, k3, k4, k5, k6, k7, k8, k9, k10, k11⟩ := bd12 F3.out.box
  go_wp2_with fail
  refine (HT.out _ F3.out.below).mono ?_
  rintro e w4 ⟨v4, rfl, ho4, hb4⟩
  have F4 := Lib.hid (F3.out.more hb4)
  have O4 := OwnBd.lower ho4 F3.out.below.size
  obtain ⟨a4, hv4, _⟩ := id O4.at
  subst hv4
  clear hb4 k0 k1 k2 k3 k4 k5 k6 k7 k8 k9 k10 k11 ho4 F3
  have F5 : Fit w (w4.alloc (.cells #[.int .i64 b.cl, .slice a4.aP b.ps.length a4.cP, .bool b.sf, .slice a4.aL b.ls.length a4.cL, .slice a4.aO b.os.length a4.cO, .slice a4.aD b.ds.length a4.cD, .int .i64 b.r, .slice a4.aR b.rs.length a4.cR, .slice a4.aX b.xs.length a4.cX, .int .i64 b.md, .int .i64 b.tk, .slice a4.aQ b.qs.length a4.cQ] 58)) w.heap.size (bdL b a) := F4.out.more ((Below.refl _ _).alloc (Nat.le_refl _) _)
  have X5 : Fit w4 (w4.alloc (.cells #[.int .i64 b.cl, .slice a4.aP b.ps.length a4.cP, .bool b.sf, .slice a4.aL b.ls.length a4.cL, .slice a4.aO b.os.length a4.cO, .slice a4.aD b.ds.length a4.cD, .int .i64 b.r, .slice a4.aR b.rs.length a4.cR, .slice a4.aX b.xs.length a4.cX, .int .i64 b.md, .int .i64 b.tk, .slice a4.aQ b.qs.length a4.cQ] 58)) w4.heap.size (bdL b a4) := Fit.made w4 (bdL b a4) _
  have O5 : OwnBd (w4.alloc (.cells #[.int .i64 b.cl, .slice a4.aP b.ps.length a4.cP, .bool b.sf, .slice a4.aL b.ls.length a4.cL, .slice a4.aO b.os.length a4.cO, .slice a4.aD b.ds.length a4.cD, .int .i64 b.r, .slice a4.aR b.rs.length a4.cR, .slice a4.aX b.xs.length a4.cX, .int .i64 b.md, .int .i64 b.tk, .slice a4.aQ b.qs.length a4.cQ] 58)) w.heap.size (bdV b a4) b := O4.more ((Below.refl _ _).alloc (Nat.le_refl _) _)
  clear O4 F4
  go_upto_region 7 with fail
  generalize w4.alloc (.cells #[.int .i64 b.cl, .slice a4.aP b.ps.length a4.cP, .bool b.sf, .slice a4.aL b.ls.length a4.cL, .slice a4.aO b.os.length a4.cO, .slice a4.aD b.ds.length a4.cD, .int .i64 b.r, .slice a4.aR b.rs.length a4.cR, .slice a4.aX b.xs.length a4.cX, .int .i64 b.md, .int .i64 b.tk, .slice a4.aQ b.qs.length a4.cQ] 58) = w5 at *
  generalize w4.heap.size = g5 at *
  have HY5 := Lib.hid (HY.out _ w5 _ O5)
  obtain ⟨m0, m1, m2, m3, m4, m5, m6, m7, m8, m9, m10, m11⟩ := bd12 X5.box
  go_wp2_with fail
  refine (HY5.out).mono ?_
  rintro e w6 ⟨rfl, hb6⟩
  have F6 := Lib.hid (F5.more hb6).drew
  have X6 := Lib.hid (X5.more hb6).drew
  have O6 := Lib.hid (OwnBd.more (OwnBd.more O5 hb6) (Below.refl _ _).drew)
  clear hb6 m0 m1 m2 m3 m4 m5 m6 m7 m8 m9 m10 m11 F5 X5 O5 HY5
  obtain ⟨k0, k1, k2, k3, k4, k5, k6, k7, k8, k9, k10, k11⟩ := bd12 F6.out.box
  obtain ⟨m0, m1, m2, m3, m4, m5, m6, m7, m8, m9, m10, m11⟩ := bd12 X6.out.box
  have HT6 := Lib.hid ((HT.out _ F6.out.below).mono fun e w' h => (show ∃ v, e = .returned v ∧ OwnBd w' w.heap.size v b ∧ Below w6.drew.heap.size w6.drew w' ∧ (w'.cell? ⟨w.heap.size, 0, none⟩ = some (.int .i64 b.cl) ∧ w'.cell? ⟨w.heap.size, 1, none⟩ = some (.slice a.aP b.ps.length a.cP) ∧ w'.cell? ⟨w.heap.size, 2, none⟩ = some (.bool b.sf) ∧ w'.cell? ⟨w.heap.size, 3, none⟩ = some (.slice a.aL b.ls.length a.cL) ∧ w'.cell? ⟨w.heap.size, 4, none⟩ = some (.slice a.aO b.os.length a.cO) ∧ w'.cell? ⟨w.heap.size, 5, none⟩ = some (.slice a.aD b.ds.length a.cD) ∧ w'.cell? ⟨w.heap.size, 6, none⟩ = some (.int .i64 b.r) ∧ w'.cell? ⟨w.heap.size, 7, none⟩ = some (.slice a.aR b.rs.length a.cR) ∧ w'.cell? ⟨w.heap.size, 8, none⟩ = some (.slice a.aX b.xs.length a.cX) ∧ w'.cell? ⟨w.heap.size, 9, none⟩ = some (.int .i64 b.md) ∧ w'.cell? ⟨w.heap.size, 10, none⟩ = some (.int .i64 b.tk) ∧ w'.cell? ⟨w.heap.size, 11, none⟩ = some (.slice a.aQ b.qs.length a.cQ)) ∧ (w'.cell? ⟨g5, 0, none⟩ = some (.int .i64 b.cl) ∧ w'.cell? ⟨g5, 1, none⟩ = some (.slice a4.aP b.ps.length a4.cP) ∧ w'.cell? ⟨g5, 2, none⟩ = some (.bool b.sf) ∧ w'.cell? ⟨g5, 3, none⟩ = some (.slice a4.aL b.ls.length a4.cL) ∧ w'.cell? ⟨g5, 4, none⟩ = some (.slice a4.aO b.os.length a4.cO) ∧ w'.cell? ⟨g5, 5, none⟩ = some (.slice a4.aD b.ds.length a4.cD) ∧ w'.cell? ⟨g5, 6, none⟩ = some (.int .i64 b.r) ∧ w'.cell? ⟨g5, 7, none⟩ = some (.slice a4.aR b.rs.length a4.cR) ∧ w'.cell? ⟨g5, 8, none⟩ = some (.slice a4.aX b.xs.length a4.cX) ∧ w'.cell? ⟨g5, 9, none⟩ = some (.int .i64 b.md) ∧ w'.cell? ⟨g5, 10, none⟩ = some (.int .i64 b.tk) ∧ w'.cell? ⟨g5, 11, none⟩ = some (.slice a4.aQ b.qs.length a4.cQ)) from by
    obtain ⟨v, h1, h2, h3⟩ := h
    exact ⟨v, h1, OwnBd.lower h2 F6.out.below.size, h3, bd12 (F6.out.more h3).box, bd12 (X6.out.more h3).box⟩))
  go_wp2
  go_region_held3 (fun w' => (w'.cell? ⟨w.heap.size, 0, none⟩ = some (.int .i64 b.cl) ∧ w'.cell? ⟨w.heap.size, 1, none⟩ = some (.slice a.aP b.ps.length a.cP) ∧ w'.cell? ⟨w.heap.size, 2, none⟩ = some (.bool b.sf) ∧ w'.cell? ⟨w.heap.size, 3, none⟩ = some (.slice a.aL b.ls.length a.cL) ∧ w'.cell? ⟨w.heap.size, 4, none⟩ = some (.slice a.aO b.os.length a.cO) ∧ w'.cell? ⟨w.heap.size, 5, none⟩ = some (.slice a.aD b.ds.length a.cD) ∧ w'.cell? ⟨w.heap.size, 6, none⟩ = some (.int .i64 b.r) ∧ w'.cell? ⟨w.heap.size, 7, none⟩ = some (.slice a.aR b.rs.length a.cR) ∧ w'.cell? ⟨w.heap.size, 8, none⟩ = some (.slice a.aX b.xs.length a.cX) ∧ w'.cell? ⟨w.heap.size, 9, none⟩ = some (.int .i64 b.md) ∧ w'.cell? ⟨w.heap.size, 10, none⟩ = some (.int .i64 b.tk) ∧ w'.cell? ⟨w.heap.size, 11, none⟩ = some (.slice a.aQ b.qs.length a.cQ)) ∧ (w'.cell? ⟨g5, 0, none⟩ = some (.int .i64 b.cl) ∧ w'.cell? ⟨g5, 1, none⟩ = some (.slice a4.aP b.ps.length a4.cP) ∧ w'.cell? ⟨g5, 2, none⟩ = some (.bool b.sf) ∧ w'.cell? ⟨g5, 3, none⟩ = some (.slice a4.aL b.ls.length a4.cL) ∧ w'.cell? ⟨g5, 4, none⟩ = some (.slice a4.aO b.os.length a4.cO) ∧ w'.cell? ⟨g5, 5, none⟩ = some (.slice a4.aD b.ds.length a4.cD) ∧ w'.cell? ⟨g5, 6, none⟩ = some (.int .i64 b.r) ∧ w'.cell? ⟨g5, 7, none⟩ = some (.slice a4.aR b.rs.length a4.cR) ∧ w'.cell? ⟨g5, 8, none⟩ = some (.slice a4.aX b.xs.length a4.cX) ∧ w'.cell? ⟨g5, 9, none⟩ = some (.int .i64 b.md) ∧ w'.cell? ⟨g5, 10, none⟩ = some (.int .i64 b.tk) ∧ w'.cell? ⟨g5, 11, none⟩ = some (.slice a4.aQ b.qs.length a4.cQ))) (first | exact ⟨⟨k0, k1, k2, k3, k4, k5, k6, k7, k8, k9, k10, k11⟩, ⟨m0, m1, m2, m3, m4, m5, m6, m7, m8, m9, m10, m11⟩⟩ | exact ⟨⟨l0, l1, l2, l3, l4, l5, l6, l7, l8, l9, l10, l11⟩, ⟨p0, p1, p2, p3, p4, p5, p6, p7, p8, p9, p10, p11⟩⟩ | exact ⟨⟨n0, n1, n2, n3, n4, n5, n6, n7, n8, n9, n10, n11⟩, ⟨q0, q1, q2, q3, q4, q5, q6, q7, q8, q9, q10, q11⟩⟩)
    (first
      | (go_at_call 27; (with_reducible refine HT6.out.mono ?_); rintro e w7 ⟨v7, rfl, O7, B7, ⟨l0, l1, l2, l3, l4, l5, l6, l7, l8, l9, l10, l11⟩, ⟨p0, p1, p2, p3, p4, p5, p6, p7, p8, p9, p10, p11⟩⟩)
      | (go_at_call 29; (with_reducible refine (HE.out _ _ w.heap.size w.heap.size _ (OwnBd.more O6.out B7) O7).mono ?_); rintro e w8 ⟨rfl, B8⟩; obtain ⟨n0, n1, n2, n3, n4, n5, n6, n7, n8, n9, n10, n11⟩ := bd12 ((F6.out.more B7).more B8).box; obtain ⟨q0, q1, q2, q3, q4, q5, q6, q7, q8, q9, q10, q11⟩ := bd12 ((X6.out.more B7).more B8).box))
  all_goals go_wp2
  all_goals go_ret
  all_goals exact ⟨rfl, ((F6.out.more B7).more B8).below⟩
end Go.Proofs.Ytebfefkknaalpab
