/- What this text proves: the law of FnExactDemandOf: the program and the model answer alike, for every list; the argument stays. -/
import Derived.Test.YtdfcamlnebcbpacDemf
namespace Go.Proofs.Ytdfcamlnebcbpac
open Go.ChangeShapes Go.WideShapes Go.ChangeAt Go.RowKit
set_option linter.unusedVariables false

set_option maxRecDepth 20000 in
set_option maxHeartbeats 8000000 in
theorem law_demandof (A0 : Option Addr) (l0 : List Rq) (c0 : Nat) (i1 : Int) (i2 : Int) (hm0 : l0.length ≤ maxLen) (hi1 : -9223372036854775808 ≤ i1 ∧ i1 ≤ 9223372036854775807) (hi2 : -9223372036854775808 ≤ i2 ∧ i2 ≤ 9223372036854775807) (w : World) (h0 : LsI 4 w w.heap.size A0 (l0.map rqC)) :
    Calls Try.prog 5 #[.slice A0 l0.length c0, .int .i64 i1, .int .i64 i2] w fun e w' => e = .returned (.bool true) ∧ Below w.heap.size w w' := by
  have S0 := Lib.hid (St.start w)
  have hs0 := fun W => sz_rqs A0 l0.length c0 (1048576) hm0 (by omega) W
  by_cases hL0 : l0.length ≤ 1048576
  rotate_left
  · have HS0 := Lib.hid (fun W => by have := hs0 W; rw [if_neg hL0] at this; exact this)
    clear hs0 h0 hL0
    go_enter Try.func5, Try.ntmps5
    go_wp2_with fail
    refine (HS0.out _).mono ?_
    rintro e w0 ⟨rfl, rfl⟩
    go_wp2
    go_ret
    exact ⟨rfl, S0.out.below⟩
  have HS0 := Lib.hid (fun W => by have := hs0 W; rw [if_pos (show l0.length ≤ 1048576 by omega)] at this; exact this)
  have d0 : decide (((1048576 : Nat) : Int) - (l0.length : Int) < 0) = false := by simp; omega
  obtain ⟨LE, hLE⟩ : ∃ LE : Int, ((1048576 : Nat) : Int) - (l0.length : Int) = LE := ⟨_, rfl⟩
  rw [hLE] at HS0 d0
  have hlen : l0.length ≤ 1048576 := hL0
  clear hLE
  have HT0 := Lib.hid (fun W L (hs : St w W L) => (to_rqu A0 l0 c0 (by omega) W (h0.full hs.below)).mono fun e w' hh => (show ∃ v, e = .returned v ∧ St w w' (rqU v l0 :: L) from by
    obtain ⟨v, g1, g2, g3, g4⟩ := hh
    exact ⟨v, g1, hs.add _ g4 g2 g3⟩))
  have HE0 := Lib.hid (fun v1 v2 W g1 g2 => eq_rqu l0 (by omega) v1 v2 W g1 g2)
  obtain ⟨RR, hRR⟩ : ∃ R, demR l0 i1 i2 = R := ⟨_, rfl⟩
  have HX := Lib.hid (fun v0 W (o0 : (rqU v0 l0).P W) => (show Calls Try.prog 24 #[v0, .int .i64 i1, .int .i64 i2] W (fun e w' => e = .returned (.int .i64 RR) ∧ Below W.heap.size W w') from by
    obtain ⟨A0', c0', rfl⟩ := rqU_form o0
    have g0 := LsO.ats o0
    rw [← hRR]
    exact dem_spec A0' l0 c0' i1 i2 (by omega) W g0))
  have HY := Lib.hid (fun v0 W (o0 : (rqU v0 l0).P W) => (show Calls Try.prog 25 #[v0, .int .i64 i1, .int .i64 i2] W (fun e w' => e = .returned (.int .i64 RR) ∧ Below W.heap.size W w') from by
    obtain ⟨A0', c0', rfl⟩ := rqU_form o0
    have g0 := LsO.ats o0
    rw [← hRR]
    exact dem_impl A0' l0 c0' i1 i2 (by omega) W g0))
  have yR : (RR != RR) = false := by simp
  clear hRR hlen hs0 h0 hL0 
  go_enter Try.func5, Try.ntmps5
  go_wp2_with fail
  refine (HS0.out _).mono ?_
  rintro e w0 ⟨rfl, rfl⟩
  go_wp2_with fail
  refine (HT0.out _ _ S0.out).mono ?_
  rintro e w1 ⟨va0, rfl, hst⟩
  have S19 := Lib.hid hst
  clear hst S0
  go_wp2_with fail
  refine (HX.out _ _ (S19.out.nth 0 _ rfl)).mono ?_
  rintro e w2 ⟨rfl, hb⟩
  have S20 := Lib.hid (S19.out.more hb)
  clear S19
  clear hb
  go_wp2_with fail
  refine (HT0.out _ _ S20.out).mono ?_
  rintro e w3 ⟨vx0, rfl, hst⟩
  have S21 := Lib.hid hst
  clear hst S20
  go_wp2_with fail
  refine (HY.out _ _ (S21.out.nth 0 _ rfl)).mono ?_
  rintro e w4 ⟨rfl, hb⟩
  have S22 := Lib.hid (S21.out.more hb)
  clear S21
  clear hb
  go_wp2_with fail
  refine (HT0.out _ _ S22.out).mono ?_
  rintro e w5 ⟨vy0, rfl, hst⟩
  have S23 := Lib.hid hst
  clear hst S22
  go_wp2_with fail
  refine (HE0.out _ _ _ (S23.out.nth 1 _ rfl) (S23.out.nth 0 _ rfl)).mono ?_
  rintro e w6 ⟨rfl, hb⟩
  have S24 := Lib.hid (S23.out.more hb)
  clear S23
  clear hb
  go_wp2
  go_ret
  exact ⟨rfl, S24.out.below⟩
end Go.Proofs.Ytdfcamlnebcbpac
