/- What this text proves: the law of FnExactAddPair: the program and the model answer alike, for all arguments; the arguments stay; the answer owns its memory. -/
import Derived.Test.YtggfmimnmpanbaaDoorAdp
import Derived.Deep.Cut
import Derived.Deep.CutRange
import Derived.Deep.RegionLaw
namespace Go.Proofs.YtggfmimnmpanbaaDoor
open Go.ChangeShapes Go.WideShapes Go.ChangeAt Go.RowKit
set_option linter.unusedVariables false

set_option maxRecDepth 20000 in
set_option maxHeartbeats 8000000 in
theorem law_addpair (A : Option Addr) (l : List Pr) (c : Nat) (x y : Int) (hm : l.length ≤ maxLen) (_ : -9223372036854775808 ≤ x ∧ x ≤ 9223372036854775807) (_ : -9223372036854775808 ≤ y ∧ y ≤ 9223372036854775807) (w : World) (h : LsI 2 w w.heap.size A (l.map prC)) (hv : Bfr w) :
    Calls Tryd.prog 5 #[.slice A l.length c, prV x y] w fun e w' => e = .returned (.bool true) ∧ Below w.heap.size w w' := by
  have hs := fun W => sz_prs A l.length c 1048576 hm (Nat.le_refl _) W
  by_cases hL : l.length ≤ 1048576
  · rw [if_pos (show l.length ≤ 1048576 by omega)] at hs
    have HS := Lib.hid hs
    have dL : decide (((1048576 : Nat) : Int) - (l.length : Int) < 0) = false := by simp; omega
    obtain ⟨LE, hLE⟩ : ∃ LE : Int, ((1048576 : Nat) : Int) - (l.length : Int) = LE := ⟨_, rfl⟩
    rw [hLE] at HS dL
    clear hLE
    have HT := Lib.hid (fun W L (hs : St w W L) => (to_pru A l c (by omega) W (h.full hs.below)).mono fun e w' hh => (show ∃ v, e = .returned v ∧ St w w' (prT v l :: L) from by
      obtain ⟨v, g1, g2, g3, g4⟩ := hh
      exact ⟨v, g1, hs.add _ g4 g2 g3⟩))
    have HP := Lib.hid (fun W L (hs : St w W L) => (to_pr x y W).mono fun e w' hh => (show e = .returned (prV x y) ∧ St w w' L from ⟨hh.1, hs.more hh.2⟩))
    have HE := Lib.hid (fun v1 v2 W g1 g2 => eq_pru l (by omega) v1 v2 W g1 g2)
    obtain ⟨RR, hRR⟩ : ∃ R, addP l (x, y) = R := ⟨_, rfl⟩
    have hrl : RR.length ≤ 1048577 := by
      rw [← hRR]; unfold addP
      split
      · rw [List.length_append]; simp; omega
      · omega
    have HX := Lib.hid (fun v W L (hs : St w W L) (o : (prT v l).P W) => (show Calls Tryd.prog 22 #[v, prV x y] W (fun e w' => ∃ u, e = .returned u ∧ St w w' (prT u RR :: L)) from by
      obtain ⟨A', c', rfl⟩ := prT_form o
      have g := LsO.ats o
      rw [← hRR]
      refine (adp_spec A' l c' x y (by omega) W g).mono fun e w' hh => ?_
      obtain ⟨u, g1, g2, g3, g4⟩ := hh
      exact ⟨u, g1, hs.add _ g4 g2 g3⟩))
    have HY := Lib.hid (fun v W L (hs : St w W L) (o : (prT v l).P W) => (show Calls Tryd.prog 12 #[v, prV x y] W (fun e w' => ∃ u, e = .returned u ∧ St w w' (prT u RR :: L)) from by
      obtain ⟨A', c', rfl⟩ := prT_form o
      have g := LsO.ats o
      rw [← hRR]
      refine (adp_impl A' l c' x y (by omega) W (hv.moreAt hv.lt hs.below hs.below.size) g).mono fun e w' hh => ?_
      obtain ⟨u, g1, g2, g3, g4⟩ := hh
      exact ⟨u, g1, hs.add _ g4 g2 g3⟩))
    have HER := Lib.hid (fun v1 v2 W g1 g2 => eq_pru RR (by omega) v1 v2 W g1 g2)
    have HM := Lib.hid (fun v W g => mark_pru l (by omega) v 1 (Nat.le_refl _) (by omega) W g)
    have HMR := Lib.hid (fun v W g => mark_pru RR (by omega) v 1 (Nat.le_refl _) (by omega) W g)
    have HHR := Lib.hid (fun v W g => held_pru RR.length (by omega) v 1 (Nat.le_refl _) (by omega) W g)
    obtain ⟨kx, hkx⟩ : ∃ k : Int, ((1 + 2 * l.length : Nat) : Int) = k := ⟨_, rfl⟩
    obtain ⟨kg, hkg⟩ : ∃ k : Int, ((1 + 2 * RR.length : Nat) : Int) = k := ⟨_, rfl⟩
    have zkx : decide (kx < 0) = false := decide_eq_false (by omega)
    have zkg : decide (kg < 0) = false := decide_eq_false (by omega)
    have ykg : (kg != kg) = false := by simp
    simp only [hkx] at HM
    simp only [hkg] at HMR HHR
    have S0 := Lib.hid ((St.start w).made (prL x y) 44)
    clear hkx hkg hrl hs hRR h hv hm hL
    go_enter Tryd.func5, Tryd.ntmps5
    go_wp2_with fail
    refine (HS.out _).mono ?_
    rintro e w0 ⟨rfl, rfl⟩
    clear HS
    go_upto_region 5 with fail
    obtain ⟨w1, hw1⟩ : ∃ w1, w.alloc (.cells #[.int .i64 x, .int .i64 y] 44) = w1 := ⟨_, rfl⟩
    rw [hw1]
    have S1 := Lib.hid (show St w w1 [boxT w.heap.size (prL x y)] from by rw [← hw1]; exact S0.out)
    clear S0 hw1
    go_cut [6] from 18 to 22 (fun s6 wx => ∃ v1 u1, u1 = s6 ∧ St w wx [prT u1 RR, prT v1 l, boxT w.heap.size (prL x y)])
    case first =>
      have Z0 : St w w1.drew [boxT w.heap.size (prL x y)] := S1.out.drew
      have k0 := (S1.out.box 0 _ _ rfl).cell 0 (by simp)
      have k1 := (S1.out.box 0 _ _ rfl).cell 1 (by simp)
      go_region_law (first
        | (go_simp; go_at_call 20; (first | (with_reducible refine (HT.out _ _ Z0).mono ?_) | (with_reducible refine (HT.out _ _ ZN).mono ?_)); rintro e wM ⟨vm, rfl, ZM⟩; (first | (have z0 := (ZM.box 1 _ _ rfl).cell 0 (by simp); have z1 := (ZM.box 1 _ _ rfl).cell 1 (by simp))))
        | (go_simp; go_at_call 23; (first | (with_reducible refine (HP.out _ _ Z0).mono ?_) | (with_reducible refine (HP.out _ _ ZM).mono ?_)); rintro e wN ⟨rfl, ZN⟩)
        | (go_simp; go_at_call 22; (first | (with_reducible refine (HX.out _ _ _ ZN (ZN.nth 0 _ rfl)).mono ?_) | (with_reducible refine (HX.out _ _ _ ZM (ZM.nth 0 _ rfl)).mono ?_)); rintro e wF ⟨uw, rfl, ZF⟩))
      all_goals go_wp2_with fail
      all_goals go_meet
      all_goals exact ⟨_, _, rfl, ZF⟩
    case rest =>
      obtain ⟨v1, uw, rfl, hT⟩ := hcut
      generalize wc = w2 at *
      have S2 := Lib.hid hT
      clear hT S1
      go_wp2_with fail
      refine (HT.out _ _ S2.out).mono ?_
      rintro e w3 ⟨vx, rfl, h3⟩
      have S3 := Lib.hid h3
      have k0 := (S3.out.box 3 _ _ rfl).cell 0 (by simp)
      have k1 := (S3.out.box 3 _ _ rfl).cell 1 (by simp)
      clear h3 S2
      go_wp2_with fail
      refine (HP.out _ _ S3.out).mono ?_
      rintro e w4 ⟨rfl, h4⟩
      have S4 := Lib.hid h4
      clear h4 S3 k0 k1
      go_wp2_with fail
      refine (HY.out _ _ _ S4.out (S4.out.nth 0 _ rfl)).mono ?_
      rintro e w5 ⟨ug, rfl, h5⟩
      have S5 := Lib.hid h5
      clear h5 S4
      go_wp2_with fail
      refine (HER.out _ _ _ (S5.out.nth 0 _ rfl) (S5.out.nth 2 _ rfl)).mono ?_
      rintro e w6 ⟨rfl, hb⟩
      have S6 := Lib.hid (S5.out.more hb)
      clear hb S5
      go_wp2_with fail
      refine (HT.out _ _ S6.out).mono ?_
      rintro e w7 ⟨vy, rfl, h7⟩
      have S7 := Lib.hid h7
      clear h7 S6
      go_wp2_with fail
      refine (HE.out _ _ _ (S7.out.nth 2 _ rfl) (S7.out.nth 0 _ rfl)).mono ?_
      rintro e w8 ⟨rfl, hb⟩
      have S8 := Lib.hid (S7.out.more hb)
      clear hb S7
      go_wp2_with fail
      refine (HM.out _ _ (S8.out.nth 2 _ rfl)).mono ?_
      rintro e w9 ⟨rfl, ht, hmk⟩
      have S9 := Lib.hid (S8.out.put 2 _ rfl ht (fun k hk => hk) (prMk vx 1 l.length) hmk (fun k hk => .inl hk))
      clear ht hmk S8
      go_wp2_with fail
      refine (HER.out _ _ _ (S9.out.nth 1 _ rfl) (S9.out.nth 3 _ rfl)).mono ?_
      rintro e w10 ⟨rfl, hb⟩
      have S10 := Lib.hid (S9.out.more hb)
      clear hb S9
      go_wp2_with fail
      refine (HMR.out _ _ (S10.out.nth 1 _ rfl)).mono ?_
      rintro e w11 ⟨rfl, ht, hmk⟩
      have S11 := Lib.hid (S10.out.put 1 _ rfl ht (fun k hk => hk) (prMk ug 1 RR.length) hmk (fun k hk => .inl hk))
      clear ht hmk S10
      go_wp2_with fail
      refine (HHR.out _ _ (S11.out.nth 1 _ rfl)).mono ?_
      rintro e w12 ⟨rfl, hb⟩
      have S12 := Lib.hid (show St w w12 [prT vy l, prMk ug 1 RR.length, prMk vx 1 l.length, prT uw RR, prT v1 l, boxT w.heap.size (prL x y)] from S11.out.more hb)
      clear hb S11
      go_upto_region 24 with fail
      have k0 := (S12.out.box 5 _ _ rfl).cell 0 (by simp)
      have k1 := (S12.out.box 5 _ _ rfl).cell 1 (by simp)
      go_cut [12] from 60 to 64 (fun s12 wx => ∃ v2 u2, u2 = s12 ∧ St w wx [prT u2 RR, prT v2 l, prT vy l, prMk ug 1 RR.length, prMk vx 1 l.length, prT uw RR, prT v1 l, boxT w.heap.size (prL x y)])
      case first =>
        have Z0 : St w w12.drew [prT vy l, prMk ug 1 RR.length, prMk vx 1 l.length, prT uw RR, prT v1 l, boxT w.heap.size (prL x y)] := S12.out.drew
        go_region_law (first
          | (go_simp; go_at_call 20; (first | (with_reducible refine (HT.out _ _ Z0).mono ?_) | (with_reducible refine (HT.out _ _ ZN).mono ?_)); rintro e wM ⟨vm, rfl, ZM⟩; (have z0 := (ZM.box 6 _ _ rfl).cell 0 (by simp); have z1 := (ZM.box 6 _ _ rfl).cell 1 (by simp)))
          | (go_simp; go_at_call 23; (first | (with_reducible refine (HP.out _ _ Z0).mono ?_) | (with_reducible refine (HP.out _ _ ZM).mono ?_)); rintro e wN ⟨rfl, ZN⟩)
          | (go_simp; go_at_call 12; (first | (with_reducible refine (HY.out _ _ _ ZN (ZN.nth 0 _ rfl)).mono ?_) | (with_reducible refine (HY.out _ _ _ ZM (ZM.nth 0 _ rfl)).mono ?_)); rintro e wF ⟨uw2, rfl, ZF⟩))
        all_goals go_wp2_with fail
        all_goals go_meet
        all_goals exact ⟨_, _, rfl, ZF⟩
      case rest =>
        obtain ⟨v2, uh, rfl, hT⟩ := hcut
        generalize wc = w13 at *
        have S13 := Lib.hid hT
        clear hT S12 k0 k1
        go_wp2_with fail
        refine (HER.out _ _ _ (S13.out.nth 0 _ rfl) (S13.out.nth 5 _ rfl)).mono ?_
        rintro e w14 ⟨rfl, hb⟩
        have S14 := Lib.hid (S13.out.more hb)
        clear hb S13
        go_wp2_with fail
        refine (HHR.out _ _ (S14.out.nth 3 _ rfl)).mono ?_
        rintro e w15 ⟨rfl, hb⟩
        have S15 := Lib.hid (S14.out.more hb)
        clear hb S14
        go_wp2
        go_ret
        exact ⟨rfl, S15.out.below⟩
  · rw [if_neg (show ¬ l.length ≤ 1048576 by omega)] at hs
    have HS := Lib.hid hs
    have HB := Lib.hid ((Below.refl _ w).alloc (Nat.le_refl _) (.cells #[.int .i64 x, .int .i64 y] 44))
    clear hs h hv hL
    go_enter Tryd.func5, Tryd.ntmps5
    go_wp2_with fail
    refine (HS.out _).mono ?_
    rintro e w0 ⟨rfl, rfl⟩
    go_wp2
    go_ret
    exact ⟨rfl, HB.out⟩
end Go.Proofs.YtggfmimnmpanbaaDoor
