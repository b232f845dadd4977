/- What this text proves: the law of FnExactMissingOf: the program and the model answer alike, for all arguments; the arguments stay; the answer owns its memory. -/
import Derived.Test.YtjcdekonidekcafMos
import Derived.Test.YtjcdekonidekcafFi
import Derived.Test.YtjcdekonidekcafInU
import Derived.Deep.RegionHeld3
namespace Go.Proofs.Ytjcdekonidekcaf
open Go.ChangeShapes Go.WideShapes Go.ChangeAt Go.RowKit
set_option linter.unusedVariables false

set_option maxRecDepth 20000 in
set_option maxHeartbeats 8000000 in
theorem law_missingof (f0 : Int) (s0 : Int) (c0 : Int) (A0 : Option Addr) (l0 : List ByteArray) (q0 : Nat) (hl0 : l0.length ≤ maxLen) (zl0 : ∀ j (hj : j < l0.length), l0[j].size ≤ maxLen) (w : World) (il0 : LsI 1 w w.heap.size A0 (l0.map txC)) :
    Calls Try.prog 6 #[(fiV f0 s0 c0 (.slice A0 l0.length q0))] w fun e w' => e = .returned (.bool true) ∧ Below w.heap.size w w' := by
  have S0 := Lib.hid (show St w (w.alloc (.cells (fiL f0 s0 c0 (.slice A0 l0.length q0)).toArray 24)) [boxT (w.heap.size) (fiL f0 s0 c0 (.slice A0 l0.length q0))] from by first | exact ((St.start w).made (fiL f0 s0 c0 (.slice A0 l0.length q0)) 24) | (have h := ((St.start w).made (fiL f0 s0 c0 (.slice A0 l0.length q0)) 24); simpa using h))
  have HS := Lib.hid (sz_fi f0 s0 c0 A0 l0 q0 1048576 hl0 zl0 (Nat.le_refl _) (w.alloc (.cells (fiL f0 s0 c0 (.slice A0 l0.length q0)).toArray 24)) (il0.full S0.out.below))
  by_cases hL : l0.length + totTx l0 l0.length ≤ 1048576
  · rw [szV_yes hL] at HS
    have dL : decide (((1048576 - (l0.length + totTx l0 l0.length) : Nat) : Int) < 0) = false := decide_eq_false (by omega)
    generalize ((1048576 - (l0.length + totTx l0 l0.length) : Nat) : Int) = LE at *
    have bl0 : l0.length ≤ 1048576 := by omega
    have HT0 := Lib.hid (fun W (hb : Below w.heap.size w W) => to_fi f0 s0 c0 A0 l0 q0 (by omega) W (il0.full hb))
    have HE0 := Lib.hid (fun v1 v2 W => eq_fi f0 s0 c0 l0 (by omega) v1 v2 W)
    have hR0 := misL_len f0 s0 c0 l0
    have hHX : ∀ (v0 : Value) (W : World) (o0 : (fiT v0 f0 s0 c0 l0).P W), Calls Try.prog 20 #[v0] W (InEnd W (misL f0 s0 c0 l0)) := fun v0 W o0 => by
      obtain ⟨A0', q0', rfl, o0⟩ := o0
      exact mo_spec f0 s0 c0 A0' l0 q0' (by omega) W (LsO.ats o0)
    have hHY : ∀ (v0 : Value) (W : World) (o0 : (fiT v0 f0 s0 c0 l0).P W), Calls Try.prog 21 #[v0] W (InEnd W (misL f0 s0 c0 l0)) := fun v0 W o0 => by
      obtain ⟨A0', q0', rfl, o0⟩ := o0
      exact mo_impl f0 s0 c0 A0' l0 q0' (by omega) W (LsO.ats o0)
    obtain ⟨lr0, hRR⟩ : ∃ R, misL f0 s0 c0 l0 = R := ⟨_, rfl⟩
    simp only [hRR] at hHX hHY hR0
    have HX := Lib.hid hHX
    have HY := Lib.hid hHY
    have bR0 : lr0.length ≤ 1048600 := by have h : lr0.length ≤ _ := hR0; omega
    have HER0 := Lib.hid (fun v1 v2 W => eq_in  lr0 (by omega) v1 v2 W)
    have HM0 := Lib.hid (fun v W => mark_fi f0 s0 c0 l0 (by omega) v (1) (by omega) (by omega) W)
    have HMR0 := Lib.hid (fun v W => mark_in  lr0 (by omega) v (1) (by omega) (by omega) W)
    have HHR0 := Lib.hid (fun v W => held_in lr0.length (by omega) v (1) (by omega) (by omega) W)
    obtain ⟨kk0, hkk0⟩ : ∃ k, ((1 + l0.length : Nat) : Int) = k := ⟨_, rfl⟩
    have zkk0 : decide (kk0 < 0) = false := decide_eq_false (by omega)
    have ykk0 : (kk0 != kk0) = false := by simp
    obtain ⟨kk1, hkk1⟩ : ∃ k, ((1 + lr0.length : Nat) : Int) = k := ⟨_, rfl⟩
    have zkk1 : decide (kk1 < 0) = false := decide_eq_false (by omega)
    have ykk1 : (kk1 != kk1) = false := by simp
    simp only [hkk0, hkk1] at HM0 HMR0 HHR0
    clear hHX hHY hRR hkk0 hkk1 il0 hR0
    go_enter Try.func6, Try.ntmps6
    obtain ⟨cq0, cq1, cq2, cq3⟩ := (S0.out.box 0 _ _ rfl).fourFi
    go_wp2_with fail
    refine HS.out.mono ?_
    rintro e w1 ⟨rfl, hf1⟩
    have S1 := Lib.hid (S0.out.more hf1.below)
    clear S0 cq0 cq1 cq2 cq3 hf1 HS
    obtain ⟨cq0, cq1, cq2, cq3⟩ := (S1.out.box 0 _ _ rfl).fourFi
    go_wp2_with fail
    refine (HT0.out _ S1.out.below).mono ?_
    rintro e w2 ⟨vs0, rfl, hp2, hn2, hb2⟩
    have S2 := Lib.hid (S1.out.add (fiT vs0 f0 s0 c0 l0) hb2 hp2 hn2)
    clear S1 cq0 cq1 cq2 cq3 hp2 hn2 hb2
    go_wp2_with fail
    refine (HX.out _ _ (S2.out.nth 0 _ rfl)).mono ?_
    rintro e w3 ⟨uw0, rfl, hp3_0, hn3_0, hb3⟩
    have S3 := Lib.hid (S2.out.add (inT uw0 lr0) hb3 hp3_0 hn3_0)
    clear S2 hb3 hp3_0 hn3_0
    obtain ⟨cq0, cq1, cq2, cq3⟩ := (S3.out.box 2 _ _ rfl).fourFi
    go_wp2_with fail
    refine (HT0.out _ S3.out.below).mono ?_
    rintro e w4 ⟨vx0, rfl, hp4, hn4, hb4⟩
    have S4 := Lib.hid (S3.out.add (fiT vx0 f0 s0 c0 l0) hb4 hp4 hn4)
    clear S3 cq0 cq1 cq2 cq3 hp4 hn4 hb4
    obtain ⟨Ax0, qx0, hvx0, _⟩ := id (S4.out.nth 0 _ rfl)
    subst hvx0
    have S5 := Lib.hid (S4.out.made (fiL f0 s0 c0 (.slice Ax0 l0.length qx0)) 27)
    clear S4 
    obtain ⟨cq0, cq1, cq2, cq3⟩ := (S5.out.box 0 _ _ rfl).fourFi
    go_wp2_with fail
    refine (HY.out _ _ (S5.out.nth 1 _ rfl)).mono ?_
    rintro e w6 ⟨ug0, rfl, hp6_0, hn6_0, hb6⟩
    have S6 := Lib.hid (S5.out.add (inT ug0 lr0) hb6 hp6_0 hn6_0)
    clear S5 hb6 hp6_0 hn6_0
    clear cq0 cq1 cq2 cq3
    go_wp2_with fail
    refine (HER0.out _ _ _ (S6.out.nth 0 _ rfl) (S6.out.nth 3 _ rfl)).mono ?_
    rintro e w7 ⟨rfl, hb7⟩
    have S7 := Lib.hid (S6.out.more hb7)
    clear S6 hb7
    go_wp2
    have S8 := Lib.hid S7.out.drew
    obtain ⟨kq0, kq1, kq2, kq3⟩ := (S8.out.box 5 _ _ rfl).fourFi
    obtain ⟨lq0, lq1, lq2, lq3⟩ := (S8.out.box 1 _ _ rfl).fourFi
    go_region_held3 (fun w' => w'.cell? ⟨(w.heap.size), 0, none⟩ = some (.int .i64 f0) ∧ w'.cell? ⟨(w.heap.size), 1, none⟩ = some (.int .i64 s0) ∧ w'.cell? ⟨(w.heap.size), 2, none⟩ = some (.int .i64 c0) ∧ w'.cell? ⟨(w.heap.size), 3, none⟩ = some (.slice A0 l0.length q0) ∧ w'.cell? ⟨w4.heap.size, 0, none⟩ = some (.int .i64 f0) ∧ w'.cell? ⟨w4.heap.size, 1, none⟩ = some (.int .i64 s0) ∧ w'.cell? ⟨w4.heap.size, 2, none⟩ = some (.int .i64 c0) ∧ w'.cell? ⟨w4.heap.size, 3, none⟩ = some (.slice Ax0 l0.length qx0)) (first | exact ⟨kq0, kq1, kq2, kq3, lq0, lq1, lq2, lq3⟩ | exact ⟨ka0, ka1, ka2, ka3, kb0, kb1, kb2, kb3⟩ | exact ⟨kc0, kc1, kc2, kc3, kd0, kd1, kd2, kd3⟩)
      (first
        | (go_at_call 11; (with_reducible refine (HT0.out _ S8.out.below).mono ?_); rintro e w9 ⟨vy0, rfl, hp9, hn9, hb9⟩; have S9 := Lib.hid (S8.out.add (fiT vy0 f0 s0 c0 l0) hb9 hp9 hn9); obtain ⟨ka0, ka1, ka2, ka3⟩ := (S9.out.box 6 _ _ rfl).fourFi; obtain ⟨kb0, kb1, kb2, kb3⟩ := (S9.out.box 2 _ _ rfl).fourFi)
        | (go_at_call 13; (with_reducible refine (HE0.out _ _ _ (S9.out.nth 3 _ rfl) (S9.out.nth 0 _ rfl)).mono ?_); rintro e w10 ⟨rfl, hb10⟩; have S10 := Lib.hid (S9.out.more hb10); obtain ⟨kc0, kc1, kc2, kc3⟩ := (S10.out.box 6 _ _ rfl).fourFi; obtain ⟨kd0, kd1, kd2, kd3⟩ := (S10.out.box 2 _ _ rfl).fourFi))
    all_goals
      have S10x := Lib.hid S10.out
      clear kq0 kq1 kq2 kq3 lq0 lq1 lq2 lq3 ka0 ka1 ka2 ka3 kb0 kb1 kb2 kb3 kc0 kc1 kc2 kc3 kd0 kd1 kd2 kd3 hb9 hb10 hp9 hn9 S9 S10 S8 S7
      obtain ⟨cq0, cq1, cq2, cq3⟩ := (S10x.out.box 2 _ _ rfl).fourFi
      go_wp2_with fail
      refine (HM0.out _ _ (S10x.out.nth 3 _ rfl)).mono ?_
      rintro e w11 ⟨rfl, ht11, hm11⟩
      have S11 := Lib.hid (S10x.out.put 3 _ rfl ht11 (fun k hk => hk) (fiM (fiV f0 s0 c0 (.slice Ax0 l0.length qx0)) (1) l0.length) hm11 (fun k hk => .inl hk))
      clear S10x cq0 cq1 cq2 cq3 ht11 hm11
      go_wp2_with fail
      refine (HER0.out _ _ _ (S11.out.nth 1 _ rfl) (S11.out.nth 4 _ rfl)).mono ?_
      rintro e w12 ⟨rfl, hb12⟩
      have S12 := Lib.hid (S11.out.more hb12)
      clear S11 hb12
      go_wp2_with fail
      refine (HMR0.out _ _ (S12.out.nth 1 _ rfl)).mono ?_
      rintro e w13 ⟨rfl, ht13, hm13⟩
      have S13 := Lib.hid (S12.out.put 1 _ rfl ht13 (fun k hk => hk) (inMk ug0 (1) lr0.length) hm13 (fun k hk => .inl hk))
      clear S12 ht13 hm13
      go_wp2_with fail
      refine (HHR0.out _ _ (S13.out.nth 1 _ rfl)).mono ?_
      rintro e w14 ⟨rfl, hb14⟩
      have S14 := Lib.hid (S13.out.more hb14)
      clear S13 hb14
      obtain ⟨cq0, cq1, cq2, cq3⟩ := (S14.out.box 6 _ _ rfl).fourFi
      go_wp2_with fail
      refine (HT0.out _ S14.out.below).mono ?_
      rintro e w15 ⟨vz0, rfl, hp15, hn15, hb15⟩
      have S15 := Lib.hid (S14.out.add (fiT vz0 f0 s0 c0 l0) hb15 hp15 hn15)
      clear S14 cq0 cq1 cq2 cq3 hp15 hn15 hb15
      go_wp2_with fail
      refine (HY.out _ _ (S15.out.nth 0 _ rfl)).mono ?_
      rintro e w16 ⟨uh0, rfl, hp16_0, hn16_0, hb16⟩
      have S16 := Lib.hid (S15.out.add (inT uh0 lr0) hb16 hp16_0 hn16_0)
      clear S15 hb16 hp16_0 hn16_0
      go_wp2_with fail
      refine (HER0.out _ _ _ (S16.out.nth 0 _ rfl) (S16.out.nth 6 _ rfl)).mono ?_
      rintro e w17 ⟨rfl, hb17⟩
      have S17 := Lib.hid (S16.out.more hb17)
      clear S16 hb17
      go_wp2_with fail
      refine (HHR0.out _ _ (S17.out.nth 3 _ rfl)).mono ?_
      rintro e w18 ⟨rfl, hb18⟩
      have S18 := Lib.hid (S17.out.more hb18)
      clear S17 hb18
      go_wp2
      go_ret
      exact ⟨rfl, S18.out.below⟩
  · rw [szV_no hL] at HS
    clear hL il0
    obtain ⟨cq0, cq1, cq2, cq3⟩ := (S0.out.box 0 _ _ rfl).fourFi
    go_enter Try.func6, Try.ntmps6
    go_wp2_with fail
    refine HS.out.mono ?_
    rintro e w1 ⟨rfl, hf1⟩
    have S1 := Lib.hid (S0.out.more hf1.below)
    clear hf1 cq0 cq1 cq2 cq3 HS
    go_wp2
    go_ret
    exact ⟨rfl, S1.out.below⟩
end Go.Proofs.Ytjcdekonidekcaf
