/- What this text proves: the law of FnExactPlanOk: the program and the model answer alike, for every orbit, list and plan; the arguments stay. -/
import Derived.Test.YtdfcamlnebcbpacPlkf
namespace Go.Proofs.Ytdfcamlnebcbpac
open Go.ChangeShapes Go.WideShapes Go.ChangeAt Go.RowKit
set_option linter.unusedVariables false

set_option maxRecDepth 20000 in
set_option maxHeartbeats 8000000 in
theorem law_planok (p s l : Int) (A1 : Option Addr) (l1 : List Rq) (c1 : Nat) (A2 : Option Addr) (l2 : List Sl) (c2 : Nat) (hp : -9223372036854775808 ≤ p ∧ p ≤ 9223372036854775807) (hs : -9223372036854775808 ≤ s ∧ s ≤ 9223372036854775807) (hl : -9223372036854775808 ≤ l ∧ l ≤ 9223372036854775807) (hm1 : l1.length ≤ maxLen) (hm2 : l2.length ≤ maxLen) (w : World) (h1 : LsI 4 w w.heap.size A1 (l1.map rqC)) (h2 : LsI 2 w w.heap.size A2 (l2.map slC)) :
    Calls Try.prog 3 #[obV p s l, .slice A1 l1.length c1, .slice A2 l2.length c2] w fun e w' => e = .returned (.bool true) ∧ Below w.heap.size w w' := by
  have S0 := Lib.hid ((St.start w).made (obL p s l) 23)
  have hs1 := fun W => sz_rqs A1 l1.length c1 (1048576) hm1 (by omega) W
  have hs2 := fun W => sz_sls A2 l2.length c2 (1048576 - l1.length) hm2 (by omega) W
  by_cases hL1 : l1.length ≤ 1048576
  rotate_left
  · have HS1 := Lib.hid (fun W => by have := hs1 W; rw [if_neg hL1] at this; exact this)
    clear hs1 hs2 h1 h2 hL1
    go_enter Try.func3, Try.ntmps3
    go_wp2_with fail
    refine (HS1.out _).mono ?_
    rintro e w0 ⟨rfl, rfl⟩
    go_wp2
    go_ret
    exact ⟨rfl, S0.out.below⟩
  have HS1 := Lib.hid (fun W => by have := hs1 W; rw [if_pos (show l1.length ≤ 1048576 by omega)] at this; exact this)
  have d1 : decide (((1048576 : Nat) : Int) - (l1.length : Int) < 0) = false := by simp; omega
  have e1 : ((1048576 : Nat) : Int) - (l1.length : Int) = ((1048576 - l1.length : Nat) : Int) := by omega
  rw [e1] at HS1 d1
  clear e1
  obtain ⟨LE, hLE⟩ : ∃ LE : Nat, 1048576 - l1.length = LE := ⟨_, rfl⟩
  rw [hLE] at HS1 d1
  simp only [hLE] at hs2
  by_cases hL2 : l2.length ≤ LE
  rotate_left
  · have HS2 := Lib.hid (fun W => by have := hs2 W; rw [if_neg hL2] at this; exact this)
    clear hs1 hs2 h1 h2 hL1 hL2 hLE
    go_enter Try.func3, Try.ntmps3
    go_wp2_with fail
    refine (HS1.out _).mono ?_
    rintro e w0 ⟨rfl, rfl⟩
    go_wp2_with fail
    refine (HS2.out _).mono ?_
    rintro e w0 ⟨rfl, rfl⟩
    go_wp2
    go_ret
    exact ⟨rfl, S0.out.below⟩
  have HS2 := Lib.hid (fun W => by have := hs2 W; rw [if_pos (show l2.length ≤ LE by omega)] at this; exact this)
  have d2 : decide ((LE : Int) - (l2.length : Int) < 0) = false := by simp; omega
  obtain ⟨LF, hLF⟩ : ∃ LF : Int, (LE : Int) - (l2.length : Int) = LF := ⟨_, rfl⟩
  rw [hLF] at HS2 d2
  have hlen : l1.length ≤ 1048576 ∧ l2.length ≤ 1048576 := by omega
  clear hLF hLE
  have HT1 := Lib.hid (fun W L (hs : St w W L) => (to_rqu A1 l1 c1 (by omega) W (h1.full hs.below)).mono fun e w' hh => (show ∃ v, e = .returned v ∧ St w w' (rqU v l1 :: L) from by
    obtain ⟨v, g1, g2, g3, g4⟩ := hh
    exact ⟨v, g1, hs.add _ g4 g2 g3⟩))
  have HE1 := Lib.hid (fun v1 v2 W g1 g2 => eq_rqu l1 (by omega) v1 v2 W g1 g2)
  have HT2 := Lib.hid (fun W L (hs : St w W L) => (to_slu A2 l2 c2 (by omega) W (h2.full hs.below)).mono fun e w' hh => (show ∃ v, e = .returned v ∧ St w w' (slU v l2 :: L) from by
    obtain ⟨v, g1, g2, g3, g4⟩ := hh
    exact ⟨v, g1, hs.add _ g4 g2 g3⟩))
  have HE2 := Lib.hid (fun v1 v2 W g1 g2 => eq_slu l2 (by omega) v1 v2 W g1 g2)
  have HOB := Lib.hid (to_ob p s l)
  obtain ⟨RR, hRR⟩ : ∃ R, decide (PlkR p s l l1 l2) = R := ⟨_, rfl⟩
  have HX := Lib.hid (fun v1 v2 W (o1 : (rqU v1 l1).P W) (o2 : (slU v2 l2).P W) => (show Calls Try.prog 10 #[obV p s l, v1, v2] W (fun e w' => e = .returned (.bool RR) ∧ Below W.heap.size W w') from by
    obtain ⟨A1', c1', rfl⟩ := rqU_form o1
    obtain ⟨A2', c2', rfl⟩ := slU_form o2
    have g1 := LsO.ats o1
    have g2 := LsO.ats o2
    rw [← hRR]
    exact plk_spec p s l A1' l1 c1' A2' l2 c2' (by omega) (by omega) W g1 g2))
  have HY := Lib.hid (fun v1 v2 W (o1 : (rqU v1 l1).P W) (o2 : (slU v2 l2).P W) => (show Calls Try.prog 14 #[obV p s l, v1, v2] W (fun e w' => e = .returned (.bool RR) ∧ Below W.heap.size W w') from by
    obtain ⟨A1', c1', rfl⟩ := rqU_form o1
    obtain ⟨A2', c2', rfl⟩ := slU_form o2
    have g1 := LsO.ats o1
    have g2 := LsO.ats o2
    rw [← hRR]
    exact plk_impl p s l A1' l1 c1' A2' l2 c2' (by omega) (by omega) W g1 g2))
  have yR : (RR != RR) = false := by simp
  clear hRR hlen hs1 h1 hL1 hs2 h2 hL2 
  go_enter Try.func3, Try.ntmps3
  go_wp2_with fail
  refine (HS1.out _).mono ?_
  rintro e w0 ⟨rfl, rfl⟩
  go_wp2_with fail
  refine (HS2.out _).mono ?_
  rintro e w0 ⟨rfl, rfl⟩
  have b0 := (S0.out.box 0 _ _ rfl).cell 0 (by simp)
  have b1 := (S0.out.box 0 _ _ rfl).cell 1 (by simp)
  have b2 := (S0.out.box 0 _ _ rfl).cell 2 (by simp)
  go_wp2_with fail
  refine (HOB.out _).mono ?_
  rintro e w1 ⟨rfl, hb⟩
  have S33 := Lib.hid (S0.out.more hb)
  clear S0
  clear hb
  clear b0 b1 b2
  go_wp2_with fail
  refine (HT1.out _ _ S33.out).mono ?_
  rintro e w2 ⟨va1, rfl, hst⟩
  have S34 := Lib.hid hst
  clear hst S33
  go_wp2_with fail
  refine (HT2.out _ _ S34.out).mono ?_
  rintro e w3 ⟨va2, rfl, hst⟩
  have S35 := Lib.hid hst
  clear hst S34
  go_wp2_with fail
  refine (HX.out _ _ _ (S35.out.nth 1 _ rfl) (S35.out.nth 0 _ rfl)).mono ?_
  rintro e w4 ⟨rfl, hb⟩
  have S36 := Lib.hid (S35.out.more hb)
  clear S35
  clear hb
  go_wp2_with fail
  refine (HT1.out _ _ S36.out).mono ?_
  rintro e w5 ⟨vx1, rfl, hst⟩
  have S37 := Lib.hid hst
  clear hst S36
  go_wp2_with fail
  refine (HT2.out _ _ S37.out).mono ?_
  rintro e w6 ⟨vx2, rfl, hst⟩
  have S38 := Lib.hid hst
  clear hst S37
  have b0 := (S38.out.box 4 _ _ rfl).cell 0 (by simp)
  have b1 := (S38.out.box 4 _ _ rfl).cell 1 (by simp)
  have b2 := (S38.out.box 4 _ _ rfl).cell 2 (by simp)
  go_wp2_with fail
  refine (HOB.out _).mono ?_
  rintro e w7 ⟨rfl, hb⟩
  have S39 := Lib.hid (S38.out.more hb)
  clear S38
  clear hb
  clear b0 b1 b2
  go_wp2_with fail
  refine (HY.out _ _ _ (S39.out.nth 1 _ rfl) (S39.out.nth 0 _ rfl)).mono ?_
  rintro e w8 ⟨rfl, hb⟩
  have S40 := Lib.hid (S39.out.more hb)
  clear S39
  clear hb
  go_wp2_with fail
  refine (HT1.out _ _ S40.out).mono ?_
  rintro e w9 ⟨vy1, rfl, hst⟩
  have S41 := Lib.hid hst
  clear hst S40
  go_wp2_with fail
  refine (HE1.out _ _ _ (S41.out.nth 2 _ rfl) (S41.out.nth 0 _ rfl)).mono ?_
  rintro e w10 ⟨rfl, hb⟩
  have S42 := Lib.hid (S41.out.more hb)
  clear S41
  clear hb
  go_wp2_with fail
  refine (HT2.out _ _ S42.out).mono ?_
  rintro e w11 ⟨vy2, rfl, hst⟩
  have S43 := Lib.hid hst
  clear hst S42
  go_wp2_with fail
  refine (HE2.out _ _ _ (S43.out.nth 2 _ rfl) (S43.out.nth 0 _ rfl)).mono ?_
  rintro e w12 ⟨rfl, hb⟩
  have S44 := Lib.hid (S43.out.more hb)
  clear S43
  clear hb
  go_wp2
  go_ret
  exact ⟨rfl, S44.out.below⟩
end Go.Proofs.Ytdfcamlnebcbpac
