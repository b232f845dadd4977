/- What this text proves: the law of FnExactFeasible: the program and the model answer alike, for every orbit and list; the argument stays. -/
import Derived.Test.YtdfcamlnebcbpacFeaf
namespace Go.Proofs.Ytdfcamlnebcbpac
open Go.ChangeShapes Go.WideShapes Go.ChangeAt Go.RowKit
set_option linter.unusedVariables false

set_option maxRecDepth 20000 in
set_option maxHeartbeats 8000000 in
theorem law_feasible (p s l : Int) (A1 : Option Addr) (l1 : List Rq) (c1 : Nat) (hp : -9223372036854775808 ≤ p ∧ p ≤ 9223372036854775807) (hs : -9223372036854775808 ≤ s ∧ s ≤ 9223372036854775807) (hl : -9223372036854775808 ≤ l ∧ l ≤ 9223372036854775807) (hm1 : l1.length ≤ maxLen) (w : World) (h1 : LsI 4 w w.heap.size A1 (l1.map rqC)) :
    Calls Try.prog 6 #[obV p s l, .slice A1 l1.length c1] w fun e w' => e = .returned (.bool true) ∧ Below w.heap.size w w' := by
  have S0 := Lib.hid ((St.start w).made (obL p s l) 23)
  have hs1 := fun W => sz_rqs A1 l1.length c1 (1048576) hm1 (by omega) W
  by_cases hL1 : l1.length ≤ 1048576
  rotate_left
  · have HS1 := Lib.hid (fun W => by have := hs1 W; rw [if_neg hL1] at this; exact this)
    clear hs1 h1 hL1
    go_enter Try.func6, Try.ntmps6
    go_wp2_with fail
    refine (HS1.out _).mono ?_
    rintro e w0 ⟨rfl, rfl⟩
    go_wp2
    go_ret
    exact ⟨rfl, S0.out.below⟩
  have HS1 := Lib.hid (fun W => by have := hs1 W; rw [if_pos (show l1.length ≤ 1048576 by omega)] at this; exact this)
  have d1 : decide (((1048576 : Nat) : Int) - (l1.length : Int) < 0) = false := by simp; omega
  obtain ⟨LE, hLE⟩ : ∃ LE : Int, ((1048576 : Nat) : Int) - (l1.length : Int) = LE := ⟨_, rfl⟩
  rw [hLE] at HS1 d1
  have hlen : l1.length ≤ 1048576 := hL1
  clear hLE
  have HT1 := Lib.hid (fun W L (hs : St w W L) => (to_rqu A1 l1 c1 (by omega) W (h1.full hs.below)).mono fun e w' hh => (show ∃ v, e = .returned v ∧ St w w' (rqU v l1 :: L) from by
    obtain ⟨v, g1, g2, g3, g4⟩ := hh
    exact ⟨v, g1, hs.add _ g4 g2 g3⟩))
  have HE1 := Lib.hid (fun v1 v2 W g1 g2 => eq_rqu l1 (by omega) v1 v2 W g1 g2)
  have HOB := Lib.hid (to_ob p s l)
  obtain ⟨RR, hRR⟩ : ∃ R, decide (FeaR p s l l1) = R := ⟨_, rfl⟩
  have HX := Lib.hid (fun v1 W (o1 : (rqU v1 l1).P W) => (show Calls Try.prog 26 #[obV p s l, v1] W (fun e w' => e = .returned (.bool RR) ∧ Below W.heap.size W w') from by
    obtain ⟨A1', c1', rfl⟩ := rqU_form o1
    have g1 := LsO.ats o1
    rw [← hRR]
    exact fea_spec p s l A1' l1 c1' (by omega) W g1))
  have HY := Lib.hid (fun v1 W (o1 : (rqU v1 l1).P W) => (show Calls Try.prog 27 #[obV p s l, v1] W (fun e w' => e = .returned (.bool RR) ∧ Below W.heap.size W w') from by
    obtain ⟨A1', c1', rfl⟩ := rqU_form o1
    have g1 := LsO.ats o1
    rw [← hRR]
    exact fea_impl p s l A1' l1 c1' (by omega) W g1))
  have yR : (RR != RR) = false := by simp
  clear hRR hlen hs1 h1 hL1 
  go_enter Try.func6, Try.ntmps6
  go_wp2_with fail
  refine (HS1.out _).mono ?_
  rintro e w0 ⟨rfl, rfl⟩
  have b0 := (S0.out.box 0 _ _ rfl).cell 0 (by simp)
  have b1 := (S0.out.box 0 _ _ rfl).cell 1 (by simp)
  have b2 := (S0.out.box 0 _ _ rfl).cell 2 (by simp)
  go_wp2_with fail
  refine (HOB.out _).mono ?_
  rintro e w1 ⟨rfl, hb⟩
  have S25 := Lib.hid (S0.out.more hb)
  clear S0
  clear hb
  clear b0 b1 b2
  go_wp2_with fail
  refine (HT1.out _ _ S25.out).mono ?_
  rintro e w2 ⟨va1, rfl, hst⟩
  have S26 := Lib.hid hst
  clear hst S25
  go_wp2_with fail
  refine (HX.out _ _ (S26.out.nth 0 _ rfl)).mono ?_
  rintro e w3 ⟨rfl, hb⟩
  have S27 := Lib.hid (S26.out.more hb)
  clear S26
  clear hb
  go_wp2_with fail
  refine (HT1.out _ _ S27.out).mono ?_
  rintro e w4 ⟨vx1, rfl, hst⟩
  have S28 := Lib.hid hst
  clear hst S27
  have b0 := (S28.out.box 2 _ _ rfl).cell 0 (by simp)
  have b1 := (S28.out.box 2 _ _ rfl).cell 1 (by simp)
  have b2 := (S28.out.box 2 _ _ rfl).cell 2 (by simp)
  go_wp2_with fail
  refine (HOB.out _).mono ?_
  rintro e w5 ⟨rfl, hb⟩
  have S29 := Lib.hid (S28.out.more hb)
  clear S28
  clear hb
  clear b0 b1 b2
  go_wp2_with fail
  refine (HY.out _ _ (S29.out.nth 0 _ rfl)).mono ?_
  rintro e w6 ⟨rfl, hb⟩
  have S30 := Lib.hid (S29.out.more hb)
  clear S29
  clear hb
  go_wp2_with fail
  refine (HT1.out _ _ S30.out).mono ?_
  rintro e w7 ⟨vy1, rfl, hst⟩
  have S31 := Lib.hid hst
  clear hst S30
  go_wp2_with fail
  refine (HE1.out _ _ _ (S31.out.nth 1 _ rfl) (S31.out.nth 0 _ rfl)).mono ?_
  rintro e w8 ⟨rfl, hb⟩
  have S32 := Lib.hid (S31.out.more hb)
  clear S31
  clear hb
  go_wp2
  go_ret
  exact ⟨rfl, S32.out.below⟩
end Go.Proofs.Ytdfcamlnebcbpac
