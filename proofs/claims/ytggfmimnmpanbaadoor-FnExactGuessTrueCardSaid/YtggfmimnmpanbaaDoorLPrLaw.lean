/- What this text proves: the laws of FnExactPairsOk, FnExactBoundsOf, FnExactGuessTrue and FnExactRateOf: the program and the model answer alike, for all arguments; the argument stays. -/
import Derived.Test.YtggfmimnmpanbaaDoorBou
import Derived.Test.YtggfmimnmpanbaaDoorGue
import Derived.Test.YtggfmimnmpanbaaDoorRat
import Derived.Test.YtggfmimnmpanbaaDoorPrU
namespace Go.Proofs.YtggfmimnmpanbaaDoor
open Go.ChangeShapes Go.WideShapes Go.ChangeAt Go.RowKit
set_option linter.unusedVariables false

set_option maxRecDepth 20000 in
set_option maxHeartbeats 4000000 in
theorem law_pairsok (A : Option Addr) (l : List Pr) (c : Nat) (hm : l.length ≤ maxLen) (w : World) (h : LsI 2 w w.heap.size A (l.map prC)) (hv : Bfr w) :
    Calls Tryd.prog 4 #[.slice A l.length c] w fun e w' => e = .returned (.bool true) ∧ Below w.heap.size w w' := by
  have hs := sz_prs A l.length c 1048576 hm (Nat.le_refl _) w
  by_cases hL : l.length ≤ 1048576
  · rw [if_pos (show l.length ≤ 1048576 by omega)] at hs
    have HS := Lib.hid hs
    have dL : decide (((1048576 : Nat) : Int) - (l.length : Int) < 0) = false := by simp; omega
    obtain ⟨LE, hLE⟩ : ∃ LE : Int, ((1048576 : Nat) : Int) - (l.length : Int) = LE := ⟨_, rfl⟩
    rw [hLE] at HS dL
    clear hLE
    have HT := Lib.hid (fun W L (hs : St w W L) => (to_pru A l c (by omega) W (h.full hs.below)).mono fun e w' hh => (show ∃ v, e = .returned v ∧ St w w' (prT v l :: L) from by
      obtain ⟨v, g1, g2, g3, g4⟩ := hh
      exact ⟨v, g1, hs.add _ g4 g2 g3⟩))
    have HE := Lib.hid (fun v1 v2 W g1 g2 => eq_pru l (by omega) v1 v2 W g1 g2)
    obtain ⟨RR, hRR⟩ : ∃ R, decide (PrsOk l) = R := ⟨_, rfl⟩
    have HX := Lib.hid (fun v W (o : (prT v l).P W) => (show Calls Tryd.prog 19 #[v] W (fun e w' => e = .returned (.bool (RR)) ∧ Below W.heap.size W w') from by
      obtain ⟨A', c', rfl⟩ := prT_form o
      have g := LsO.ats o
      rw [← hRR]
      exact pok_spec A' l c' (by omega) W g))
    have HY := Lib.hid (fun v W (hb : Below w.heap.size w W) (o : (prT v l).P W) => (show Calls Tryd.prog 17 #[v] W (fun e w' => e = .returned (.bool (RR)) ∧ Below W.heap.size W w') from by
      obtain ⟨A', c', rfl⟩ := prT_form o
      have g := LsO.ats o
      rw [← hRR]
      exact pok_impl A' l c' (by omega) W (hv.moreAt hv.lt hb hb.size) g))

    have yRR : (RR != RR) = false := by simp
    clear hs hRR h hv hm
    have S0 := Lib.hid (St.start w)
    go_enter Tryd.func4, Tryd.ntmps4
    go_wp2_with fail
    refine HS.out.mono ?_
    rintro e w0 ⟨rfl, rfl⟩
    go_wp2_with fail
    refine (HT.out _ _ S0.out).mono ?_
    rintro e w1 ⟨v1, rfl, h1⟩
    have S1 := Lib.hid h1
    clear h1
    go_wp2_with fail
    refine (HX.out _ _ (S1.out.nth 0 _ rfl)).mono ?_
    rintro e w2 ⟨rfl, hb⟩
    have S2 := Lib.hid (S1.out.more hb)
    clear hb S1
    go_wp2_with fail
    refine (HT.out _ _ S2.out).mono ?_
    rintro e w3 ⟨v2, rfl, h3⟩
    have S3 := Lib.hid h3
    clear h3 S2
    go_wp2_with fail
    refine (HY.out _ _ S3.out.below (S3.out.nth 0 _ rfl)).mono ?_
    rintro e w4 ⟨rfl, hb⟩
    have S4 := Lib.hid (S3.out.more hb)
    clear hb S3
    go_wp2_with fail
    refine (HT.out _ _ S4.out).mono ?_
    rintro e w5 ⟨v3, rfl, h5⟩
    have S5 := Lib.hid h5
    clear h5 S4
    go_wp2_with fail
    refine (HE.out _ _ _ (S5.out.nth 1 _ rfl) (S5.out.nth 0 _ rfl)).mono ?_
    rintro e w6 ⟨rfl, hb⟩
    have S6 := Lib.hid (S5.out.more hb)
    clear hb S5
    go_wp2
    go_ret
    exact ⟨rfl, S6.out.below⟩
  · rw [if_neg (show ¬ l.length ≤ 1048576 by omega)] at hs
    have HS := Lib.hid hs
    clear hs h hv hL
    go_enter Tryd.func4, Tryd.ntmps4
    go_wp2_with fail
    refine HS.out.mono ?_
    rintro e w0 ⟨rfl, rfl⟩
    go_wp2
    go_ret
    exact ⟨rfl, Below.refl _ _⟩

set_option maxRecDepth 20000 in
set_option maxHeartbeats 4000000 in
theorem law_boundsof (A : Option Addr) (l : List Pr) (c : Nat) (b : Int) (hm : l.length ≤ maxLen) (_ : -9223372036854775808 ≤ b ∧ b ≤ 9223372036854775807) (w : World) (h : LsI 2 w w.heap.size A (l.map prC)) (hv : Bfr w) (hz : Bhd w) :
    Calls Tryd.prog 6 #[.slice A l.length c, .int .i64 b] w fun e w' => e = .returned (.bool true) ∧ Below w.heap.size w w' := by
  have hs := sz_prs A l.length c 1048576 hm (Nat.le_refl _) w
  by_cases hL : l.length ≤ 1048576
  · rw [if_pos (show l.length ≤ 1048576 by omega)] at hs
    have HS := Lib.hid hs
    have dL : decide (((1048576 : Nat) : Int) - (l.length : Int) < 0) = false := by simp; omega
    obtain ⟨LE, hLE⟩ : ∃ LE : Int, ((1048576 : Nat) : Int) - (l.length : Int) = LE := ⟨_, rfl⟩
    rw [hLE] at HS dL
    clear hLE
    have HT := Lib.hid (fun W L (hs : St w W L) => (to_pru A l c (by omega) W (h.full hs.below)).mono fun e w' hh => (show ∃ v, e = .returned v ∧ St w w' (prT v l :: L) from by
      obtain ⟨v, g1, g2, g3, g4⟩ := hh
      exact ⟨v, g1, hs.add _ g4 g2 g3⟩))
    have HE := Lib.hid (fun v1 v2 W g1 g2 => eq_pru l (by omega) v1 v2 W g1 g2)
    obtain ⟨RR, hRR⟩ : ∃ R, bouR l b = R := ⟨_, rfl⟩
    have HX := Lib.hid (fun v W (o : (prT v l).P W) => (show Calls Tryd.prog 26 #[v, .int .i64 b] W (fun e w' => e = .returned (boV (RR)) ∧ Below W.heap.size W w') from by
      obtain ⟨A', c', rfl⟩ := prT_form o
      have g := LsO.ats o
      rw [← hRR]
      exact bou_spec A' l c' b (by omega) W g))
    have HY := Lib.hid (fun v W (hb : Below w.heap.size w W) (o : (prT v l).P W) => (show Calls Tryd.prog 14 #[v, .int .i64 b] W (fun e w' => e = .returned (boV (RR)) ∧ Below W.heap.size W w') from by
      obtain ⟨A', c', rfl⟩ := prT_form o
      have g := LsO.ats o
      rw [← hRR]
      exact bou_impl A' l c' b (by omega) W (hv.moreAt hv.lt hb hb.size) (hz.moreAt hz.lt hb hb.size) g))
    obtain ⟨R1, R2, R3⟩ := RR
    have yR1 : (R1 != R1) = false := by simp
    have yR2 : (R2 != R2) = false := by simp
    have yR3 : (R3 != R3) = false := by simp
    clear hs hRR h hv hm hz
    have S0 := Lib.hid (St.start w)
    go_enter Tryd.func6, Tryd.ntmps6
    go_wp2_with fail
    refine HS.out.mono ?_
    rintro e w0 ⟨rfl, rfl⟩
    go_wp2_with fail
    refine (HT.out _ _ S0.out).mono ?_
    rintro e w1 ⟨v1, rfl, h1⟩
    have S1 := Lib.hid h1
    clear h1
    go_wp2_with fail
    refine (HX.out _ _ (S1.out.nth 0 _ rfl)).mono ?_
    rintro e w2 ⟨rfl, hb⟩
    have S2 := Lib.hid (S1.out.more hb)
    clear hb S1
    go_wp2_with fail
    refine (HT.out _ _ S2.out).mono ?_
    rintro e w3 ⟨v2, rfl, h3⟩
    have S3 := Lib.hid h3
    clear h3 S2
    go_wp2_with fail
    refine (HY.out _ _ S3.out.below (S3.out.nth 0 _ rfl)).mono ?_
    rintro e w4 ⟨rfl, hb⟩
    have S4 := Lib.hid (S3.out.more hb)
    clear hb S3
    go_wp2_with fail
    refine (HT.out _ _ S4.out).mono ?_
    rintro e w5 ⟨v3, rfl, h5⟩
    have S5 := Lib.hid h5
    clear h5 S4
    go_wp2_with fail
    refine (HE.out _ _ _ (S5.out.nth 1 _ rfl) (S5.out.nth 0 _ rfl)).mono ?_
    rintro e w6 ⟨rfl, hb⟩
    have S6 := Lib.hid (S5.out.more hb)
    clear hb S5
    go_wp2
    go_ret
    exact ⟨rfl, S6.out.below⟩
  · rw [if_neg (show ¬ l.length ≤ 1048576 by omega)] at hs
    have HS := Lib.hid hs
    clear hs h hv hL hz
    go_enter Tryd.func6, Tryd.ntmps6
    go_wp2_with fail
    refine HS.out.mono ?_
    rintro e w0 ⟨rfl, rfl⟩
    go_wp2
    go_ret
    exact ⟨rfl, Below.refl _ _⟩

set_option maxRecDepth 20000 in
set_option maxHeartbeats 4000000 in
theorem law_guesstrue (A : Option Addr) (l : List Pr) (c : Nat) (b : Int) (hm : l.length ≤ maxLen) (_ : -9223372036854775808 ≤ b ∧ b ≤ 9223372036854775807) (w : World) (h : LsI 2 w w.heap.size A (l.map prC)) (hv : Bfr w) :
    Calls Tryd.prog 7 #[.slice A l.length c, .int .i64 b] w fun e w' => e = .returned (.bool true) ∧ Below w.heap.size w w' := by
  have hs := sz_prs A l.length c 1048576 hm (Nat.le_refl _) w
  by_cases hL : l.length ≤ 1048576
  · rw [if_pos (show l.length ≤ 1048576 by omega)] at hs
    have HS := Lib.hid hs
    have dL : decide (((1048576 : Nat) : Int) - (l.length : Int) < 0) = false := by simp; omega
    obtain ⟨LE, hLE⟩ : ∃ LE : Int, ((1048576 : Nat) : Int) - (l.length : Int) = LE := ⟨_, rfl⟩
    rw [hLE] at HS dL
    clear hLE
    have HT := Lib.hid (fun W L (hs : St w W L) => (to_pru A l c (by omega) W (h.full hs.below)).mono fun e w' hh => (show ∃ v, e = .returned v ∧ St w w' (prT v l :: L) from by
      obtain ⟨v, g1, g2, g3, g4⟩ := hh
      exact ⟨v, g1, hs.add _ g4 g2 g3⟩))
    have HE := Lib.hid (fun v1 v2 W g1 g2 => eq_pru l (by omega) v1 v2 W g1 g2)
    obtain ⟨RR, hRR⟩ : ∃ R, gueR l b = R := ⟨_, rfl⟩
    have HX := Lib.hid (fun v W (o : (prT v l).P W) => (show Calls Tryd.prog 27 #[v, .int .i64 b] W (fun e w' => e = .returned (guV (RR)) ∧ Below W.heap.size W w') from by
      obtain ⟨A', c', rfl⟩ := prT_form o
      have g := LsO.ats o
      rw [← hRR]
      exact gue_spec A' l c' b (by omega) W g))
    have HY := Lib.hid (fun v W (hb : Below w.heap.size w W) (o : (prT v l).P W) => (show Calls Tryd.prog 15 #[v, .int .i64 b] W (fun e w' => e = .returned (guV (RR)) ∧ Below W.heap.size W w') from by
      obtain ⟨A', c', rfl⟩ := prT_form o
      have g := LsO.ats o
      rw [← hRR]
      exact gue_impl A' l c' b (by omega) W (hv.moreAt hv.lt hb hb.size) g))
    obtain ⟨R1, R2⟩ := RR
    have yR1 : (R1 != R1) = false := by simp
    have yR2 : (R2 != R2) = false := by simp
    clear hs hRR h hv hm
    have S0 := Lib.hid (St.start w)
    go_enter Tryd.func7, Tryd.ntmps7
    go_wp2_with fail
    refine HS.out.mono ?_
    rintro e w0 ⟨rfl, rfl⟩
    go_wp2_with fail
    refine (HT.out _ _ S0.out).mono ?_
    rintro e w1 ⟨v1, rfl, h1⟩
    have S1 := Lib.hid h1
    clear h1
    go_wp2_with fail
    refine (HX.out _ _ (S1.out.nth 0 _ rfl)).mono ?_
    rintro e w2 ⟨rfl, hb⟩
    have S2 := Lib.hid (S1.out.more hb)
    clear hb S1
    go_wp2_with fail
    refine (HT.out _ _ S2.out).mono ?_
    rintro e w3 ⟨v2, rfl, h3⟩
    have S3 := Lib.hid h3
    clear h3 S2
    go_wp2_with fail
    refine (HY.out _ _ S3.out.below (S3.out.nth 0 _ rfl)).mono ?_
    rintro e w4 ⟨rfl, hb⟩
    have S4 := Lib.hid (S3.out.more hb)
    clear hb S3
    go_wp2_with fail
    refine (HT.out _ _ S4.out).mono ?_
    rintro e w5 ⟨v3, rfl, h5⟩
    have S5 := Lib.hid h5
    clear h5 S4
    go_wp2_with fail
    refine (HE.out _ _ _ (S5.out.nth 1 _ rfl) (S5.out.nth 0 _ rfl)).mono ?_
    rintro e w6 ⟨rfl, hb⟩
    have S6 := Lib.hid (S5.out.more hb)
    clear hb S5
    go_wp2
    go_ret
    exact ⟨rfl, S6.out.below⟩
  · rw [if_neg (show ¬ l.length ≤ 1048576 by omega)] at hs
    have HS := Lib.hid hs
    clear hs h hv hL
    go_enter Tryd.func7, Tryd.ntmps7
    go_wp2_with fail
    refine HS.out.mono ?_
    rintro e w0 ⟨rfl, rfl⟩
    go_wp2
    go_ret
    exact ⟨rfl, Below.refl _ _⟩

set_option maxRecDepth 20000 in
set_option maxHeartbeats 4000000 in
theorem law_rateof (A : Option Addr) (l : List Pr) (c : Nat) (hm : l.length ≤ maxLen) (w : World) (h : LsI 2 w w.heap.size A (l.map prC)) (hv : Bfr w) :
    Calls Tryd.prog 8 #[.slice A l.length c] w fun e w' => e = .returned (.bool true) ∧ Below w.heap.size w w' := by
  have hs := sz_prs A l.length c 1048576 hm (Nat.le_refl _) w
  by_cases hL : l.length ≤ 1048576
  · rw [if_pos (show l.length ≤ 1048576 by omega)] at hs
    have HS := Lib.hid hs
    have dL : decide (((1048576 : Nat) : Int) - (l.length : Int) < 0) = false := by simp; omega
    obtain ⟨LE, hLE⟩ : ∃ LE : Int, ((1048576 : Nat) : Int) - (l.length : Int) = LE := ⟨_, rfl⟩
    rw [hLE] at HS dL
    clear hLE
    have HT := Lib.hid (fun W L (hs : St w W L) => (to_pru A l c (by omega) W (h.full hs.below)).mono fun e w' hh => (show ∃ v, e = .returned v ∧ St w w' (prT v l :: L) from by
      obtain ⟨v, g1, g2, g3, g4⟩ := hh
      exact ⟨v, g1, hs.add _ g4 g2 g3⟩))
    have HE := Lib.hid (fun v1 v2 W g1 g2 => eq_pru l (by omega) v1 v2 W g1 g2)
    obtain ⟨RR, hRR⟩ : ∃ R, ratR l = R := ⟨_, rfl⟩
    have HX := Lib.hid (fun v W (o : (prT v l).P W) => (show Calls Tryd.prog 28 #[v] W (fun e w' => e = .returned (guV (RR)) ∧ Below W.heap.size W w') from by
      obtain ⟨A', c', rfl⟩ := prT_form o
      have g := LsO.ats o
      rw [← hRR]
      exact rat_spec A' l c' (by omega) W g))
    have HY := Lib.hid (fun v W (hb : Below w.heap.size w W) (o : (prT v l).P W) => (show Calls Tryd.prog 16 #[v] W (fun e w' => e = .returned (guV (RR)) ∧ Below W.heap.size W w') from by
      obtain ⟨A', c', rfl⟩ := prT_form o
      have g := LsO.ats o
      rw [← hRR]
      exact rat_impl A' l c' (by omega) W (hv.moreAt hv.lt hb hb.size) g))
    obtain ⟨R1, R2⟩ := RR
    have yR1 : (R1 != R1) = false := by simp
    have yR2 : (R2 != R2) = false := by simp
    clear hs hRR h hv hm
    have S0 := Lib.hid (St.start w)
    go_enter Tryd.func8, Tryd.ntmps8
    go_wp2_with fail
    refine HS.out.mono ?_
    rintro e w0 ⟨rfl, rfl⟩
    go_wp2_with fail
    refine (HT.out _ _ S0.out).mono ?_
    rintro e w1 ⟨v1, rfl, h1⟩
    have S1 := Lib.hid h1
    clear h1
    go_wp2_with fail
    refine (HX.out _ _ (S1.out.nth 0 _ rfl)).mono ?_
    rintro e w2 ⟨rfl, hb⟩
    have S2 := Lib.hid (S1.out.more hb)
    clear hb S1
    go_wp2_with fail
    refine (HT.out _ _ S2.out).mono ?_
    rintro e w3 ⟨v2, rfl, h3⟩
    have S3 := Lib.hid h3
    clear h3 S2
    go_wp2_with fail
    refine (HY.out _ _ S3.out.below (S3.out.nth 0 _ rfl)).mono ?_
    rintro e w4 ⟨rfl, hb⟩
    have S4 := Lib.hid (S3.out.more hb)
    clear hb S3
    go_wp2_with fail
    refine (HT.out _ _ S4.out).mono ?_
    rintro e w5 ⟨v3, rfl, h5⟩
    have S5 := Lib.hid h5
    clear h5 S4
    go_wp2_with fail
    refine (HE.out _ _ _ (S5.out.nth 1 _ rfl) (S5.out.nth 0 _ rfl)).mono ?_
    rintro e w6 ⟨rfl, hb⟩
    have S6 := Lib.hid (S5.out.more hb)
    clear hb S5
    go_wp2
    go_ret
    exact ⟨rfl, S6.out.below⟩
  · rw [if_neg (show ¬ l.length ≤ 1048576 by omega)] at hs
    have HS := Lib.hid hs
    clear hs h hv hL
    go_enter Tryd.func8, Tryd.ntmps8
    go_wp2_with fail
    refine HS.out.mono ?_
    rintro e w0 ⟨rfl, rfl⟩
    go_wp2
    go_ret
    exact ⟨rfl, Below.refl _ _⟩

end Go.Proofs.YtggfmimnmpanbaaDoor
