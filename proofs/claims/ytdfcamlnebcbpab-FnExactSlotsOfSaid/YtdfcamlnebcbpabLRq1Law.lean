/- What this text proves: the laws of FnExactRequestsOk, FnExactSlotAt and FnExactSlotsOf: the program and the model answer alike, for every list; the argument stays. -/
import Derived.Test.YtdfcamlnebcbpabSlf
import Derived.Test.YtdfcamlnebcbpabRqf
namespace Go.Proofs.Ytdfcamlnebcbpab
open Go.ChangeShapes Go.WideShapes Go.ChangeAt Go.RowKit
set_option linter.unusedVariables false

set_option maxRecDepth 20000 in
set_option maxHeartbeats 8000000 in
theorem law_requestsok (A0 : Option Addr) (l0 : List Rq) (c0 : Nat) (hm0 : l0.length ≤ maxLen) (w : World) (h0 : LsI 4 w w.heap.size A0 (l0.map rqC)) :
    Calls Try.prog 5 #[.slice A0 l0.length c0] w fun e w' => e = .returned (.bool true) ∧ Below w.heap.size w w' := by
  have S0 := Lib.hid (St.start w)
  have hs0 := fun W => sz_rqs A0 l0.length c0 (1048576) hm0 (by omega) W
  by_cases hL0 : l0.length ≤ 1048576
  rotate_left
  · have HS0 := Lib.hid (fun W => by have := hs0 W; rw [if_neg hL0] at this; exact this)
    clear hs0 h0 hL0
    go_enter Try.func5, Try.ntmps5
    go_wp2_with fail
    refine (HS0.out _).mono ?_
    rintro e w0 ⟨rfl, rfl⟩
    go_wp2
    go_ret
    exact ⟨rfl, S0.out.below⟩
  have HS0 := Lib.hid (fun W => by have := hs0 W; rw [if_pos (show l0.length ≤ 1048576 by omega)] at this; exact this)
  have d0 : decide (((1048576 : Nat) : Int) - (l0.length : Int) < 0) = false := by simp; omega
  obtain ⟨LE, hLE⟩ : ∃ LE : Int, ((1048576 : Nat) : Int) - (l0.length : Int) = LE := ⟨_, rfl⟩
  rw [hLE] at HS0 d0
  have hlen : l0.length ≤ 1048576 := hL0
  clear hLE
  have HT0 := Lib.hid (fun W L (hs : St w W L) => (to_rqu A0 l0 c0 (by omega) W (h0.full hs.below)).mono fun e w' hh => (show ∃ v, e = .returned v ∧ St w w' (rqU v l0 :: L) from by
    obtain ⟨v, g1, g2, g3, g4⟩ := hh
    exact ⟨v, g1, hs.add _ g4 g2 g3⟩))
  have HE0 := Lib.hid (fun v1 v2 W g1 g2 => eq_rqu l0 (by omega) v1 v2 W g1 g2)
  obtain ⟨RR, hRR⟩ : ∃ R, decide (RqsOk l0) = R := ⟨_, rfl⟩
  have HX := Lib.hid (fun v0 W (o0 : (rqU v0 l0).P W) => (show Calls Try.prog 15 #[v0] W (fun e w' => e = .returned (.bool RR) ∧ Below W.heap.size W w') from by
    obtain ⟨A0', c0', rfl⟩ := rqU_form o0
    have g0 := LsO.ats o0
    rw [← hRR]
    exact rqs_spec A0' l0 c0' (by omega) W g0))
  have HY := Lib.hid (fun v0 W (o0 : (rqU v0 l0).P W) => (show Calls Try.prog 17 #[v0] W (fun e w' => e = .returned (.bool RR) ∧ Below W.heap.size W w') from by
    obtain ⟨A0', c0', rfl⟩ := rqU_form o0
    have g0 := LsO.ats o0
    rw [← hRR]
    exact rqs_impl A0' l0 c0' (by omega) W g0))
  have yR : (RR != RR) = false := by simp
  clear hRR hlen hs0 h0 hL0 
  go_enter Try.func5, Try.ntmps5
  go_wp2_with fail
  refine (HS0.out _).mono ?_
  rintro e w0 ⟨rfl, rfl⟩
  go_wp2_with fail
  refine (HT0.out _ _ S0.out).mono ?_
  rintro e w1 ⟨va0, rfl, hst⟩
  have S1 := Lib.hid hst
  clear hst S0
  go_wp2_with fail
  refine (HX.out _ _ (S1.out.nth 0 _ rfl)).mono ?_
  rintro e w2 ⟨rfl, hb⟩
  have S2 := Lib.hid (S1.out.more hb)
  clear S1
  clear hb
  go_wp2_with fail
  refine (HT0.out _ _ S2.out).mono ?_
  rintro e w3 ⟨vx0, rfl, hst⟩
  have S3 := Lib.hid hst
  clear hst S2
  go_wp2_with fail
  refine (HY.out _ _ (S3.out.nth 0 _ rfl)).mono ?_
  rintro e w4 ⟨rfl, hb⟩
  have S4 := Lib.hid (S3.out.more hb)
  clear S3
  clear hb
  go_wp2_with fail
  refine (HT0.out _ _ S4.out).mono ?_
  rintro e w5 ⟨vy0, rfl, hst⟩
  have S5 := Lib.hid hst
  clear hst S4
  go_wp2_with fail
  refine (HE0.out _ _ _ (S5.out.nth 1 _ rfl) (S5.out.nth 0 _ rfl)).mono ?_
  rintro e w6 ⟨rfl, hb⟩
  have S6 := Lib.hid (S5.out.more hb)
  clear S5
  clear hb
  go_wp2
  go_ret
  exact ⟨rfl, S6.out.below⟩
set_option maxRecDepth 20000 in
set_option maxHeartbeats 8000000 in
theorem law_slotat (A0 : Option Addr) (l0 : List Sl) (c0 : Nat) (i1 : Int) (hm0 : l0.length ≤ maxLen) (hi1 : -9223372036854775808 ≤ i1 ∧ i1 ≤ 9223372036854775807) (w : World) (h0 : LsI 2 w w.heap.size A0 (l0.map slC)) :
    Calls Try.prog 7 #[.slice A0 l0.length c0, .int .i64 i1] w fun e w' => e = .returned (.bool true) ∧ Below w.heap.size w w' := by
  have S0 := Lib.hid (St.start w)
  have hs0 := fun W => sz_sls A0 l0.length c0 (1048576) hm0 (by omega) W
  by_cases hL0 : l0.length ≤ 1048576
  rotate_left
  · have HS0 := Lib.hid (fun W => by have := hs0 W; rw [if_neg hL0] at this; exact this)
    clear hs0 h0 hL0
    go_enter Try.func7, Try.ntmps7
    go_wp2_with fail
    refine (HS0.out _).mono ?_
    rintro e w0 ⟨rfl, rfl⟩
    go_wp2
    go_ret
    exact ⟨rfl, S0.out.below⟩
  have HS0 := Lib.hid (fun W => by have := hs0 W; rw [if_pos (show l0.length ≤ 1048576 by omega)] at this; exact this)
  have d0 : decide (((1048576 : Nat) : Int) - (l0.length : Int) < 0) = false := by simp; omega
  obtain ⟨LE, hLE⟩ : ∃ LE : Int, ((1048576 : Nat) : Int) - (l0.length : Int) = LE := ⟨_, rfl⟩
  rw [hLE] at HS0 d0
  have hlen : l0.length ≤ 1048576 := hL0
  clear hLE
  have HT0 := Lib.hid (fun W L (hs : St w W L) => (to_slu A0 l0 c0 (by omega) W (h0.full hs.below)).mono fun e w' hh => (show ∃ v, e = .returned v ∧ St w w' (slU v l0 :: L) from by
    obtain ⟨v, g1, g2, g3, g4⟩ := hh
    exact ⟨v, g1, hs.add _ g4 g2 g3⟩))
  have HE0 := Lib.hid (fun v1 v2 W g1 g2 => eq_slu l0 (by omega) v1 v2 W g1 g2)
  obtain ⟨RR, hRR⟩ : ∃ R, sotR l0 i1 = R := ⟨_, rfl⟩
  have HX := Lib.hid (fun v0 W (o0 : (slU v0 l0).P W) => (show Calls Try.prog 26 #[v0, .int .i64 i1] W (fun e w' => e = .returned (.int .i64 RR) ∧ Below W.heap.size W w') from by
    obtain ⟨A0', c0', rfl⟩ := slU_form o0
    have g0 := LsO.ats o0
    rw [← hRR]
    exact sot_spec A0' l0 c0' i1 (by omega) W g0))
  have HY := Lib.hid (fun v0 W (o0 : (slU v0 l0).P W) => (show Calls Try.prog 28 #[v0, .int .i64 i1] W (fun e w' => e = .returned (.int .i64 RR) ∧ Below W.heap.size W w') from by
    obtain ⟨A0', c0', rfl⟩ := slU_form o0
    have g0 := LsO.ats o0
    rw [← hRR]
    exact sot_impl A0' l0 c0' i1 (by omega) W g0))
  have yR : (RR != RR) = false := by simp
  clear hRR hlen hs0 h0 hL0 
  go_enter Try.func7, Try.ntmps7
  go_wp2_with fail
  refine (HS0.out _).mono ?_
  rintro e w0 ⟨rfl, rfl⟩
  go_wp2_with fail
  refine (HT0.out _ _ S0.out).mono ?_
  rintro e w1 ⟨va0, rfl, hst⟩
  have S7 := Lib.hid hst
  clear hst S0
  go_wp2_with fail
  refine (HX.out _ _ (S7.out.nth 0 _ rfl)).mono ?_
  rintro e w2 ⟨rfl, hb⟩
  have S8 := Lib.hid (S7.out.more hb)
  clear S7
  clear hb
  go_wp2_with fail
  refine (HT0.out _ _ S8.out).mono ?_
  rintro e w3 ⟨vx0, rfl, hst⟩
  have S9 := Lib.hid hst
  clear hst S8
  go_wp2_with fail
  refine (HY.out _ _ (S9.out.nth 0 _ rfl)).mono ?_
  rintro e w4 ⟨rfl, hb⟩
  have S10 := Lib.hid (S9.out.more hb)
  clear S9
  clear hb
  go_wp2_with fail
  refine (HT0.out _ _ S10.out).mono ?_
  rintro e w5 ⟨vy0, rfl, hst⟩
  have S11 := Lib.hid hst
  clear hst S10
  go_wp2_with fail
  refine (HE0.out _ _ _ (S11.out.nth 1 _ rfl) (S11.out.nth 0 _ rfl)).mono ?_
  rintro e w6 ⟨rfl, hb⟩
  have S12 := Lib.hid (S11.out.more hb)
  clear S11
  clear hb
  go_wp2
  go_ret
  exact ⟨rfl, S12.out.below⟩
set_option maxRecDepth 20000 in
set_option maxHeartbeats 8000000 in
theorem law_slotsof (A0 : Option Addr) (l0 : List Sl) (c0 : Nat) (i1 : Int) (hm0 : l0.length ≤ maxLen) (hi1 : -9223372036854775808 ≤ i1 ∧ i1 ≤ 9223372036854775807) (w : World) (h0 : LsI 2 w w.heap.size A0 (l0.map slC)) :
    Calls Try.prog 8 #[.slice A0 l0.length c0, .int .i64 i1] w fun e w' => e = .returned (.bool true) ∧ Below w.heap.size w w' := by
  have S0 := Lib.hid (St.start w)
  have hs0 := fun W => sz_sls A0 l0.length c0 (1048576) hm0 (by omega) W
  by_cases hL0 : l0.length ≤ 1048576
  rotate_left
  · have HS0 := Lib.hid (fun W => by have := hs0 W; rw [if_neg hL0] at this; exact this)
    clear hs0 h0 hL0
    go_enter Try.func8, Try.ntmps8
    go_wp2_with fail
    refine (HS0.out _).mono ?_
    rintro e w0 ⟨rfl, rfl⟩
    go_wp2
    go_ret
    exact ⟨rfl, S0.out.below⟩
  have HS0 := Lib.hid (fun W => by have := hs0 W; rw [if_pos (show l0.length ≤ 1048576 by omega)] at this; exact this)
  have d0 : decide (((1048576 : Nat) : Int) - (l0.length : Int) < 0) = false := by simp; omega
  obtain ⟨LE, hLE⟩ : ∃ LE : Int, ((1048576 : Nat) : Int) - (l0.length : Int) = LE := ⟨_, rfl⟩
  rw [hLE] at HS0 d0
  have hlen : l0.length ≤ 1048576 := hL0
  clear hLE
  have HT0 := Lib.hid (fun W L (hs : St w W L) => (to_slu A0 l0 c0 (by omega) W (h0.full hs.below)).mono fun e w' hh => (show ∃ v, e = .returned v ∧ St w w' (slU v l0 :: L) from by
    obtain ⟨v, g1, g2, g3, g4⟩ := hh
    exact ⟨v, g1, hs.add _ g4 g2 g3⟩))
  have HE0 := Lib.hid (fun v1 v2 W g1 g2 => eq_slu l0 (by omega) v1 v2 W g1 g2)
  obtain ⟨RR, hRR⟩ : ∃ R, ((soR l0 i1 : Nat) : Int) = R := ⟨_, rfl⟩
  have HX := Lib.hid (fun v0 W (o0 : (slU v0 l0).P W) => (show Calls Try.prog 29 #[v0, .int .i64 i1] W (fun e w' => e = .returned (.int .i64 RR) ∧ Below W.heap.size W w') from by
    obtain ⟨A0', c0', rfl⟩ := slU_form o0
    have g0 := LsO.ats o0
    rw [← hRR]
    exact sof_spec A0' l0 c0' i1 (by omega) W g0))
  have HY := Lib.hid (fun v0 W (o0 : (slU v0 l0).P W) => (show Calls Try.prog 30 #[v0, .int .i64 i1] W (fun e w' => e = .returned (.int .i64 RR) ∧ Below W.heap.size W w') from by
    obtain ⟨A0', c0', rfl⟩ := slU_form o0
    have g0 := LsO.ats o0
    rw [← hRR]
    exact sof_impl A0' l0 c0' i1 (by omega) W g0))
  have yR : (RR != RR) = false := by simp
  clear hRR hlen hs0 h0 hL0 
  go_enter Try.func8, Try.ntmps8
  go_wp2_with fail
  refine (HS0.out _).mono ?_
  rintro e w0 ⟨rfl, rfl⟩
  go_wp2_with fail
  refine (HT0.out _ _ S0.out).mono ?_
  rintro e w1 ⟨va0, rfl, hst⟩
  have S13 := Lib.hid hst
  clear hst S0
  go_wp2_with fail
  refine (HX.out _ _ (S13.out.nth 0 _ rfl)).mono ?_
  rintro e w2 ⟨rfl, hb⟩
  have S14 := Lib.hid (S13.out.more hb)
  clear S13
  clear hb
  go_wp2_with fail
  refine (HT0.out _ _ S14.out).mono ?_
  rintro e w3 ⟨vx0, rfl, hst⟩
  have S15 := Lib.hid hst
  clear hst S14
  go_wp2_with fail
  refine (HY.out _ _ (S15.out.nth 0 _ rfl)).mono ?_
  rintro e w4 ⟨rfl, hb⟩
  have S16 := Lib.hid (S15.out.more hb)
  clear S15
  clear hb
  go_wp2_with fail
  refine (HT0.out _ _ S16.out).mono ?_
  rintro e w5 ⟨vy0, rfl, hst⟩
  have S17 := Lib.hid hst
  clear hst S16
  go_wp2_with fail
  refine (HE0.out _ _ _ (S17.out.nth 1 _ rfl) (S17.out.nth 0 _ rfl)).mono ?_
  rintro e w6 ⟨rfl, hb⟩
  have S18 := Lib.hid (S17.out.more hb)
  clear S17
  clear hb
  go_wp2
  go_ret
  exact ⟨rfl, S18.out.below⟩
end Go.Proofs.Ytdfcamlnebcbpab
