/- What this text proves: the law of FnExactMissedOf: the program and the model answer alike, for all lists; the arguments stay; the answer owns its memory. -/
import Derived.Test.YtdfcamlnebcbpacMisf
namespace Go.Proofs.Ytdfcamlnebcbpac
open Go.ChangeShapes Go.WideShapes Go.ChangeAt Go.RowKit
set_option linter.unusedVariables false

set_option maxRecDepth 20000 in
set_option maxHeartbeats 8000000 in
theorem law_missedof (A0 : Option Addr) (l0 : List Rq) (c0 : Nat) (A1 : Option Addr) (l1 : List Sl) (c1 : Nat) (hm0 : l0.length ≤ maxLen) (hm1 : l1.length ≤ maxLen) (w : World) (h0 : LsI 4 w w.heap.size A0 (l0.map rqC)) (h1 : LsI 2 w w.heap.size A1 (l1.map slC)) :
    Calls Try.prog 4 #[.slice A0 l0.length c0, .slice A1 l1.length c1] w fun e w' => e = .returned (.bool true) ∧ Below w.heap.size w w' := by
  have S0 := Lib.hid (St.start w)
  have hs0 := fun W => sz_rqs A0 l0.length c0 (1048576) hm0 (by omega) W
  have hs1 := fun W => sz_sls A1 l1.length c1 (1048576 - l0.length) hm1 (by omega) W
  by_cases hL0 : l0.length ≤ 1048576
  rotate_left
  · have HS0 := Lib.hid (fun W => by have := hs0 W; rw [if_neg hL0] at this; exact this)
    clear hs0 hs1 h0 h1 hL0
    go_enter Try.func4, Try.ntmps4
    go_wp2_with fail
    refine (HS0.out _).mono ?_
    rintro e w0 ⟨rfl, rfl⟩
    go_wp2
    go_ret
    exact ⟨rfl, S0.out.below⟩
  have HS0 := Lib.hid (fun W => by have := hs0 W; rw [if_pos (show l0.length ≤ 1048576 by omega)] at this; exact this)
  have d0 : decide (((1048576 : Nat) : Int) - (l0.length : Int) < 0) = false := by simp; omega
  have e0 : ((1048576 : Nat) : Int) - (l0.length : Int) = ((1048576 - l0.length : Nat) : Int) := by omega
  rw [e0] at HS0 d0
  clear e0
  obtain ⟨LE, hLE⟩ : ∃ LE : Nat, 1048576 - l0.length = LE := ⟨_, rfl⟩
  rw [hLE] at HS0 d0
  simp only [hLE] at hs1
  by_cases hL1 : l1.length ≤ LE
  rotate_left
  · have HS1 := Lib.hid (fun W => by have := hs1 W; rw [if_neg hL1] at this; exact this)
    clear hs0 hs1 h0 h1 hL0 hL1 hLE
    go_enter Try.func4, Try.ntmps4
    go_wp2_with fail
    refine (HS0.out _).mono ?_
    rintro e w0 ⟨rfl, rfl⟩
    go_wp2_with fail
    refine (HS1.out _).mono ?_
    rintro e w0 ⟨rfl, rfl⟩
    go_wp2
    go_ret
    exact ⟨rfl, S0.out.below⟩
  have HS1 := Lib.hid (fun W => by have := hs1 W; rw [if_pos (show l1.length ≤ LE by omega)] at this; exact this)
  have d1 : decide ((LE : Int) - (l1.length : Int) < 0) = false := by simp; omega
  obtain ⟨LF, hLF⟩ : ∃ LF : Int, (LE : Int) - (l1.length : Int) = LF := ⟨_, rfl⟩
  rw [hLF] at HS1 d1
  have hlen : l0.length ≤ 1048576 ∧ l1.length ≤ 1048576 := by omega
  clear hLF hLE
  have HT0 := Lib.hid (fun W L (hs : St w W L) => (to_rqu A0 l0 c0 (by omega) W (h0.full hs.below)).mono fun e w' hh => (show ∃ v, e = .returned v ∧ St w w' (rqU v l0 :: L) from by
    obtain ⟨v, g1, g2, g3, g4⟩ := hh
    exact ⟨v, g1, hs.add _ g4 g2 g3⟩))
  have HE0 := Lib.hid (fun v1 v2 W g1 g2 => eq_rqu l0 (by omega) v1 v2 W g1 g2)
  have HT1 := Lib.hid (fun W L (hs : St w W L) => (to_slu A1 l1 c1 (by omega) W (h1.full hs.below)).mono fun e w' hh => (show ∃ v, e = .returned v ∧ St w w' (slU v l1 :: L) from by
    obtain ⟨v, g1, g2, g3, g4⟩ := hh
    exact ⟨v, g1, hs.add _ g4 g2 g3⟩))
  have HE1 := Lib.hid (fun v1 v2 W g1 g2 => eq_slu l1 (by omega) v1 v2 W g1 g2)
  obtain ⟨RR, hRR⟩ : ∃ R, misP l0 l1 = R := ⟨_, rfl⟩
  have hrl : RR.length ≤ 1100000 := by rw [← hRR]; exact Nat.le_trans (misN_len l0 l1 l0.length) (by omega)
  have HX := Lib.hid (fun v0 v1 W L (hs : St w W L) (o0 : (rqU v0 l0).P W) (o1 : (slU v1 l1).P W) => (show Calls Try.prog 17 #[v0, v1] W (fun e w' => ∃ u, e = .returned u ∧ St w w' (inT u RR :: L)) from by
    obtain ⟨A0', c0', rfl⟩ := rqU_form o0
    obtain ⟨A1', c1', rfl⟩ := slU_form o1
    have g0 := LsO.ats o0
    have g1 := LsO.ats o1
    rw [← hRR]
    refine (mis_spec A0' l0 c0' A1' l1 c1' (by omega) (by omega) W g0 g1).mono fun e w' hh => ?_
    obtain ⟨u, g1, g2, g3, g4⟩ := hh
    exact ⟨u, g1, hs.add _ g4 g2 g3⟩))
  have HY := Lib.hid (fun v0 v1 W L (hs : St w W L) (o0 : (rqU v0 l0).P W) (o1 : (slU v1 l1).P W) => (show Calls Try.prog 18 #[v0, v1] W (fun e w' => ∃ u, e = .returned u ∧ St w w' (inT u RR :: L)) from by
    obtain ⟨A0', c0', rfl⟩ := rqU_form o0
    obtain ⟨A1', c1', rfl⟩ := slU_form o1
    have g0 := LsO.ats o0
    have g1 := LsO.ats o1
    rw [← hRR]
    refine (mis_impl A0' l0 c0' A1' l1 c1' (by omega) (by omega) W g0 g1).mono fun e w' hh => ?_
    obtain ⟨u, g1, g2, g3, g4⟩ := hh
    exact ⟨u, g1, hs.add _ g4 g2 g3⟩))
  have HER := Lib.hid (fun v1 v2 W g1 g2 => eq_in RR (by omega) v1 v2 W g1 g2)
  have HM0 := Lib.hid (fun v W g => mark_rqu l0 (by omega) v (1) (by omega) (by omega) W g)
  have HM1 := Lib.hid (fun v W g => mark_slu l1 (by omega) v (1 + 4 * l0.length) (by omega) (by omega) W g)
  have HMR := Lib.hid (fun v W g => mark_in RR (by omega) v 1 (Nat.le_refl _) (by omega) W g)
  have HHR := Lib.hid (fun v W g => held_in RR.length (by omega) v 1 (Nat.le_refl _) (by omega) W g)
  obtain ⟨k0, hk0⟩ : ∃ k : Int, ((1 + 4 * l0.length : Nat) : Int) = k := ⟨_, rfl⟩
  have z0 : decide (k0 < 0) = false := decide_eq_false (by omega)
  obtain ⟨k1, hk1⟩ : ∃ k : Int, ((1 + 4 * l0.length + 2 * l1.length : Nat) : Int) = k := ⟨_, rfl⟩
  have z1 : decide (k1 < 0) = false := decide_eq_false (by omega)
  obtain ⟨kg, hkg⟩ : ∃ k : Int, ((1 + RR.length : Nat) : Int) = k := ⟨_, rfl⟩
  have zkg : decide (kg < 0) = false := decide_eq_false (by omega)
  have ykg : (kg != kg) = false := by simp
  simp only [hk0] at HM0
  simp only [hk1] at HM1
  simp only [show ((1 + 4 * l0.length : Nat) : Int) = k0 from hk0] at HM1
  simp only [hkg] at HMR HHR
  clear hrl hkg hk0 hk1
  clear hRR hlen hs0 h0 hL0 hs1 h1 hL1 
  go_enter Try.func4, Try.ntmps4
  go_wp2_with fail
  refine (HS0.out _).mono ?_
  rintro e w0 ⟨rfl, rfl⟩
  go_wp2_with fail
  refine (HS1.out _).mono ?_
  rintro e w0 ⟨rfl, rfl⟩
  go_wp2_with fail
  refine (HT0.out _ _ S0.out).mono ?_
  rintro e w1 ⟨va0, rfl, hst⟩
  have S45 := Lib.hid hst
  clear hst S0
  go_wp2_with fail
  refine (HT1.out _ _ S45.out).mono ?_
  rintro e w2 ⟨va1, rfl, hst⟩
  have S46 := Lib.hid hst
  clear hst S45
  go_wp2_with fail
  refine (HX.out _ _ _ _ S46.out (S46.out.nth 1 _ rfl) (S46.out.nth 0 _ rfl)).mono ?_
  rintro e w3 ⟨uw, rfl, hst⟩
  have S47 := Lib.hid hst
  clear hst S46
  go_wp2_with fail
  refine (HT0.out _ _ S47.out).mono ?_
  rintro e w4 ⟨vx0, rfl, hst⟩
  have S48 := Lib.hid hst
  clear hst S47
  go_wp2_with fail
  refine (HT1.out _ _ S48.out).mono ?_
  rintro e w5 ⟨vx1, rfl, hst⟩
  have S49 := Lib.hid hst
  clear hst S48
  go_wp2_with fail
  refine (HY.out _ _ _ _ S49.out (S49.out.nth 1 _ rfl) (S49.out.nth 0 _ rfl)).mono ?_
  rintro e w6 ⟨ug, rfl, hst⟩
  have S50 := Lib.hid hst
  clear hst S49
  go_wp2_with fail
  refine (HER.out _ _ _ (S50.out.nth 0 _ rfl) (S50.out.nth 3 _ rfl)).mono ?_
  rintro e w7 ⟨rfl, hb⟩
  have S51 := Lib.hid (S50.out.more hb)
  clear S50
  clear hb
  go_wp2_with fail
  refine (HT0.out _ _ S51.out).mono ?_
  rintro e w8 ⟨vy0, rfl, hst⟩
  have S52 := Lib.hid hst
  clear hst S51
  go_wp2_with fail
  refine (HE0.out _ _ _ (S52.out.nth 3 _ rfl) (S52.out.nth 0 _ rfl)).mono ?_
  rintro e w9 ⟨rfl, hb⟩
  have S53 := Lib.hid (S52.out.more hb)
  clear S52
  clear hb
  go_wp2_with fail
  refine (HT1.out _ _ S53.out).mono ?_
  rintro e w10 ⟨vy1, rfl, hst⟩
  have S54 := Lib.hid hst
  clear hst S53
  go_wp2_with fail
  refine (HE1.out _ _ _ (S54.out.nth 3 _ rfl) (S54.out.nth 0 _ rfl)).mono ?_
  rintro e w11 ⟨rfl, hb⟩
  have S55 := Lib.hid (S54.out.more hb)
  clear S54
  clear hb
  go_wp2_with fail
  refine (HM0.out _ _ (S55.out.nth 4 _ rfl)).mono ?_
  rintro e w12 ⟨rfl, ht, hmk⟩
  have S56 := Lib.hid (S55.out.put 4 _ rfl ht (fun k hk => hk) (rqMk vx0 (1) l0.length) hmk (fun k hk => .inl hk))
  clear S55
  clear ht hmk
  go_wp2_with fail
  refine (HM1.out _ _ (S56.out.nth 3 _ rfl)).mono ?_
  rintro e w13 ⟨rfl, ht, hmk⟩
  have S57 := Lib.hid (S56.out.put 3 _ rfl ht (fun k hk => hk) (slMk vx1 (1 + 4 * l0.length) l1.length) hmk (fun k hk => .inl hk))
  clear S56
  clear ht hmk
  go_wp2_with fail
  refine (HER.out _ _ _ (S57.out.nth 2 _ rfl) (S57.out.nth 5 _ rfl)).mono ?_
  rintro e w14 ⟨rfl, hb⟩
  have S58 := Lib.hid (S57.out.more hb)
  clear S57
  clear hb
  go_wp2_with fail
  refine (HMR.out _ _ (S58.out.nth 2 _ rfl)).mono ?_
  rintro e w15 ⟨rfl, ht, hmk⟩
  have S59 := Lib.hid (S58.out.put 2 _ rfl ht (fun k hk => hk) (inMk ug 1 RR.length) hmk (fun k hk => .inl hk))
  clear S58
  clear ht hmk
  go_wp2_with fail
  refine (HHR.out _ _ (S59.out.nth 2 _ rfl)).mono ?_
  rintro e w16 ⟨rfl, hb⟩
  have S60 := Lib.hid (S59.out.more hb)
  clear S59
  clear hb
  go_wp2_with fail
  refine (HT0.out _ _ S60.out).mono ?_
  rintro e w17 ⟨vz0, rfl, hst⟩
  have S61 := Lib.hid hst
  clear hst S60
  go_wp2_with fail
  refine (HT1.out _ _ S61.out).mono ?_
  rintro e w18 ⟨vz1, rfl, hst⟩
  have S62 := Lib.hid hst
  clear hst S61
  go_wp2_with fail
  refine (HY.out _ _ _ _ S62.out (S62.out.nth 1 _ rfl) (S62.out.nth 0 _ rfl)).mono ?_
  rintro e w19 ⟨uh, rfl, hst⟩
  have S63 := Lib.hid hst
  clear hst S62
  go_wp2_with fail
  refine (HER.out _ _ _ (S63.out.nth 0 _ rfl) (S63.out.nth 8 _ rfl)).mono ?_
  rintro e w20 ⟨rfl, hb⟩
  have S64 := Lib.hid (S63.out.more hb)
  clear S63
  clear hb
  go_wp2_with fail
  refine (HHR.out _ _ (S64.out.nth 5 _ rfl)).mono ?_
  rintro e w21 ⟨rfl, hb⟩
  have S65 := Lib.hid (S64.out.more hb)
  clear S64
  clear hb
  go_wp2
  go_ret
  exact ⟨rfl, S65.out.below⟩
end Go.Proofs.Ytdfcamlnebcbpac
