/- What this text proves: the law of FnExactHearMissing: the program and the model answer alike, for all arguments; the arguments stay; the answer owns its memory. -/
import Derived.Test.YtjcdekonidekcagFoH
import Derived.Test.YtjcdekonidekcagFo
import Derived.Test.YtjcdekonidekcagInU
import Derived.Deep.RegionHeld3
namespace Go.Proofs.Ytjcdekonidekcag
open Go.ChangeShapes Go.WideShapes Go.ChangeAt Go.RowKit
set_option linter.unusedVariables false

set_option maxRecDepth 20000 in
set_option maxHeartbeats 8000000 in
theorem law_hearmissing (f0 : Int) (d0 : ByteArray) (A0 : Option Addr) (l0 : List Int) (q0 : Nat) (b0 : Bool) (i1 : Int) (A2 : Option Addr) (l2 : List Int) (q2 : Nat) (zd0 : d0.size ≤ maxLen) (hl0 : l0.length ≤ maxLen) (_ : -9223372036854775808 ≤ i1 ∧ i1 ≤ 9223372036854775807) (hl2 : l2.length ≤ maxLen) (w : World) (il0 : LsI 1 w w.heap.size A0 (l0.map inC)) (il2 : LsI 1 w w.heap.size A2 (l2.map inC)) :
    Calls Try.prog 5 #[(foV f0 d0 b0 (.slice A0 l0.length q0)), .int .i64 i1, (.slice A2 l2.length q2)] w fun e w' => e = .returned (.bool true) ∧ Below w.heap.size w w' := by
  have S0 := Lib.hid (show St w (w.alloc (.cells (foL f0 d0 b0 (.slice A0 l0.length q0)).toArray 30)) [boxT (w.heap.size) (foL f0 d0 b0 (.slice A0 l0.length q0))] from by first | exact ((St.start w).made (foL f0 d0 b0 (.slice A0 l0.length q0)) 30) | (have h := ((St.start w).made (foL f0 d0 b0 (.slice A0 l0.length q0)) 30); simpa using h))
  have hxl2 : l2.length ≤ 9223372036854775807 := by unfold maxLen at hl2; omega
  by_cases Ll2 : l2.length ≤ 1048576
  · have dl2 : decide (1048576 < l2.length) = false := by simp; omega
    have el2 : decide ((1048576 : Int) < (l2.length : Int)) = false := by simp; omega
    have HS := Lib.hid (sz_fo f0 d0 b0 A0 l0 q0 1048576 hl0 zd0 (Nat.le_refl _) (w.alloc (.cells (foL f0 d0 b0 (.slice A0 l0.length q0)).toArray 30)))
    by_cases hL : d0.size + l0.length ≤ 1048576
    · rw [szW_yes hL] at HS
      have dL : decide (((1048576 - (d0.size + l0.length) : Nat) : Int) < 0) = false := decide_eq_false (by omega)
      generalize ((1048576 - (d0.size + l0.length) : Nat) : Int) = LE at *
      have bd0 : d0.size ≤ 1048576 := by omega
      have bl0 : l0.length ≤ 1048576 := by omega
      have bl2 : l2.length ≤ 1048576 := Ll2
      have HT0 := Lib.hid (fun W (hb : Below w.heap.size w W) => to_fo f0 d0 b0 A0 l0 q0 (by omega) W (il0.full hb))
      have HE0 := Lib.hid (fun v1 v2 W => eq_fo f0 d0 b0 l0 (by omega) v1 v2 W)
      have HT2 := Lib.hid (fun W (hb : Below w.heap.size w W) => to_in  A2 l2 q2 (by omega) W (il2.full hb))
      have HE2 := Lib.hid (fun v1 v2 W => eq_in  l2 (by omega) v1 v2 W)
      have hR0 := hearM_len f0 d0 l0 b0 i1 l2 (by omega)
      have hHX : ∀ (v0 v2 : Value) (W : World) (o0 : (foT v0 f0 d0 b0 l0).P W) (o2 : (inT v2 l2).P W), Calls Try.prog 15 #[v0, .int .i64 i1, v2] W (FoEnd W (hearM f0 d0 l0 b0 i1 l2)) := fun v0 v2 W o0 o2 => by
        obtain ⟨A0', q0', rfl, o0⟩ := o0
        obtain ⟨A2', q2', rfl⟩ := inT_form o2
        exact hm_spec f0 d0 A0' l0 q0' b0 i1 A2' l2 q2' (by omega) (by omega) (by omega) W (LsO.ats o0) (LsO.ats o2)
      have hHY : ∀ (v0 v2 : Value) (W : World) (o0 : (foT v0 f0 d0 b0 l0).P W) (o2 : (inT v2 l2).P W), Calls Try.prog 17 #[v0, .int .i64 i1, v2] W (FoEnd W (hearM f0 d0 l0 b0 i1 l2)) := fun v0 v2 W o0 o2 => by
        obtain ⟨A0', q0', rfl, o0⟩ := o0
        obtain ⟨A2', q2', rfl⟩ := inT_form o2
        exact hm_impl f0 d0 A0' l0 q0' b0 i1 A2' l2 q2' (by omega) (by omega) (by omega) W (LsO.ats o0) (LsO.ats o2)
      obtain ⟨RR, hRR⟩ : ∃ R, hearM f0 d0 l0 b0 i1 l2 = R := ⟨_, rfl⟩
      simp only [hRR] at hHX hHY hR0
      obtain ⟨fr0, dr0, lr0, br0⟩ := RR
      have HX := Lib.hid hHX
      have HY := Lib.hid hHY
      have bR0 : lr0.length ≤ 1048600 := by have h : lr0.length ≤ _ := hR0; omega
      have HER0 := Lib.hid (fun v1 v2 W => eq_fo fr0 dr0 br0 lr0 (by omega) v1 v2 W)
      have HM0 := Lib.hid (fun v W => mark_fo f0 d0 b0 l0 (by omega) v (1) (by omega) (by omega) W)
      have HM2 := Lib.hid (fun v W => mark_in  l2 (by omega) v (1 + l0.length) (by omega) (by omega) W)
      have HMR0 := Lib.hid (fun v W => mark_fo fr0 dr0 br0 lr0 (by omega) v (1) (by omega) (by omega) W)
      have HHR0 := Lib.hid (fun v W => held_fo lr0.length (by omega) v (1) (by omega) (by omega) W)
      obtain ⟨kk0, hkk0⟩ : ∃ k, ((1 + l0.length : Nat) : Int) = k := ⟨_, rfl⟩
      have zkk0 : decide (kk0 < 0) = false := decide_eq_false (by omega)
      have ykk0 : (kk0 != kk0) = false := by simp
      obtain ⟨kk1, hkk1⟩ : ∃ k, ((1 + l0.length + l2.length : Nat) : Int) = k := ⟨_, rfl⟩
      have zkk1 : decide (kk1 < 0) = false := decide_eq_false (by omega)
      have ykk1 : (kk1 != kk1) = false := by simp
      obtain ⟨kk2, hkk2⟩ : ∃ k, ((1 + lr0.length : Nat) : Int) = k := ⟨_, rfl⟩
      have zkk2 : decide (kk2 < 0) = false := decide_eq_false (by omega)
      have ykk2 : (kk2 != kk2) = false := by simp
      simp only [hkk0, hkk1, hkk2] at HM0 HM2 HMR0 HHR0
      clear hHX hHY hRR hkk0 hkk1 hkk2 il0 il2 hR0
      go_enter Try.func5, Try.ntmps5
      obtain ⟨cq0, cq1, cq2, cq3⟩ := (S0.out.box 0 _ _ rfl).fourFo
      go_wp2_with fail
      refine HS.out.mono ?_
      rintro e w1 ⟨rfl, hf1⟩
      have S1 := Lib.hid (S0.out.more hf1.below)
      clear S0 cq0 cq1 cq2 cq3 hf1 HS
      obtain ⟨cq0, cq1, cq2, cq3⟩ := (S1.out.box 0 _ _ rfl).fourFo
      go_wp2_with fail
      refine (HT0.out _ S1.out.below).mono ?_
      rintro e w2 ⟨vs0, rfl, hp2, hn2, hb2⟩
      have S2 := Lib.hid (S1.out.add (foT vs0 f0 d0 b0 l0) hb2 hp2 hn2)
      clear S1 cq0 cq1 cq2 cq3 hp2 hn2 hb2
      go_wp2_with fail
      refine (HT2.out _ S2.out.below).mono ?_
      rintro e w3 ⟨vs2, rfl, hp3, hn3, hb3⟩
      have S3 := Lib.hid (S2.out.add (inT vs2 l2) hb3 hp3 hn3)
      clear S2 hp3 hn3 hb3
      go_wp2_with fail
      refine (HX.out _ _ _ (S3.out.nth 1 _ rfl) (S3.out.nth 0 _ rfl)).mono ?_
      rintro e w4 ⟨uw0, rfl, hp4_0, hn4_0, hb4⟩
      obtain ⟨Auw0, quw0, rfl, _⟩ := id hp4_0
      have S4 := Lib.hid (((S3.out.add (foT (foV fr0 dr0 br0 (.slice Auw0 lr0.length quw0)) fr0 dr0 br0 lr0) hb4 hp4_0 hn4_0)).made (foL fr0 dr0 br0 (.slice Auw0 lr0.length quw0)) 24)
      clear S3 hb4 hp4_0 hn4_0
      obtain ⟨cq0, cq1, cq2, cq3⟩ := (S4.out.box 4 _ _ rfl).fourFo
      go_wp2_with fail
      refine (HT0.out _ S4.out.below).mono ?_
      rintro e w5 ⟨vx0, rfl, hp5, hn5, hb5⟩
      have S5 := Lib.hid (S4.out.add (foT vx0 f0 d0 b0 l0) hb5 hp5 hn5)
      clear S4 cq0 cq1 cq2 cq3 hp5 hn5 hb5
      obtain ⟨Ax0, qx0, hvx0, _⟩ := id (S5.out.nth 0 _ rfl)
      subst hvx0
      have S6 := Lib.hid (S5.out.made (foL f0 d0 b0 (.slice Ax0 l0.length qx0)) 24)
      clear S5 
      go_wp2_with fail
      refine (HT2.out _ S6.out.below).mono ?_
      rintro e w7 ⟨vx2, rfl, hp7, hn7, hb7⟩
      have S7 := Lib.hid (S6.out.add (inT vx2 l2) hb7 hp7 hn7)
      clear S6 hp7 hn7 hb7
      obtain ⟨cq0, cq1, cq2, cq3⟩ := (S7.out.box 1 _ _ rfl).fourFo
      go_wp2_with fail
      refine (HY.out _ _ _ (S7.out.nth 2 _ rfl) (S7.out.nth 0 _ rfl)).mono ?_
      rintro e w8 ⟨ug0, rfl, hp8_0, hn8_0, hb8⟩
      obtain ⟨Aug0, qug0, rfl, _⟩ := id hp8_0
      have S8 := Lib.hid (((S7.out.add (foT (foV fr0 dr0 br0 (.slice Aug0 lr0.length qug0)) fr0 dr0 br0 lr0) hb8 hp8_0 hn8_0)).made (foL fr0 dr0 br0 (.slice Aug0 lr0.length qug0)) 24)
      clear S7 hb8 hp8_0 hn8_0
      clear cq0 cq1 cq2 cq3
      obtain ⟨cq0, cq1, cq2, cq3⟩ := (S8.out.box 0 _ _ rfl).fourFo
      obtain ⟨dq0, dq1, dq2, dq3⟩ := (S8.out.box 5 _ _ rfl).fourFo
      go_wp2_with fail
      refine (HER0.out _ _ _ (S8.out.nth 1 _ rfl) (S8.out.nth 6 _ rfl)).mono ?_
      rintro e w9 ⟨rfl, hb9⟩
      have S9 := Lib.hid (S8.out.more hb9)
      clear S8 cq0 cq1 cq2 cq3 dq0 dq1 dq2 dq3 hb9
      go_wp2
      have S10 := Lib.hid S9.out.drew
      obtain ⟨kq0, kq1, kq2, kq3⟩ := (S10.out.box 9 _ _ rfl).fourFo
      obtain ⟨lq0, lq1, lq2, lq3⟩ := (S10.out.box 3 _ _ rfl).fourFo
      go_region_held3 (fun w' => w'.cell? ⟨(w.heap.size), 0, none⟩ = some (.int .i64 f0) ∧ w'.cell? ⟨(w.heap.size), 1, none⟩ = some (.string d0) ∧ w'.cell? ⟨(w.heap.size), 2, none⟩ = some (.slice A0 l0.length q0) ∧ w'.cell? ⟨(w.heap.size), 3, none⟩ = some (.bool b0) ∧ w'.cell? ⟨w5.heap.size, 0, none⟩ = some (.int .i64 f0) ∧ w'.cell? ⟨w5.heap.size, 1, none⟩ = some (.string d0) ∧ w'.cell? ⟨w5.heap.size, 2, none⟩ = some (.slice Ax0 l0.length qx0) ∧ w'.cell? ⟨w5.heap.size, 3, none⟩ = some (.bool b0)) (first | exact ⟨kq0, kq1, kq2, kq3, lq0, lq1, lq2, lq3⟩ | exact ⟨ka0, ka1, ka2, ka3, kb0, kb1, kb2, kb3⟩ | exact ⟨kc0, kc1, kc2, kc3, kd0, kd1, kd2, kd3⟩)
        (first
          | (go_at_call 13; (with_reducible refine (HT0.out _ S10.out.below).mono ?_); rintro e w11 ⟨vy0, rfl, hp11, hn11, hb11⟩; have S11 := Lib.hid (S10.out.add (foT vy0 f0 d0 b0 l0) hb11 hp11 hn11); obtain ⟨ka0, ka1, ka2, ka3⟩ := (S11.out.box 10 _ _ rfl).fourFo; obtain ⟨kb0, kb1, kb2, kb3⟩ := (S11.out.box 4 _ _ rfl).fourFo)
          | (go_at_call 8; (with_reducible refine (HE0.out _ _ _ (S11.out.nth 5 _ rfl) (S11.out.nth 0 _ rfl)).mono ?_); rintro e w12 ⟨rfl, hb12⟩; have S12 := Lib.hid (S11.out.more hb12); obtain ⟨kc0, kc1, kc2, kc3⟩ := (S12.out.box 10 _ _ rfl).fourFo; obtain ⟨kd0, kd1, kd2, kd3⟩ := (S12.out.box 4 _ _ rfl).fourFo))
      all_goals
        have S12x := Lib.hid S12.out
        clear kq0 kq1 kq2 kq3 lq0 lq1 lq2 lq3 ka0 ka1 ka2 ka3 kb0 kb1 kb2 kb3 kc0 kc1 kc2 kc3 kd0 kd1 kd2 kd3 hb11 hb12 hp11 hn11 S11 S12 S10 S9
        go_wp2_with fail
        refine (HT2.out _ S12x.out.below).mono ?_
        rintro e w13 ⟨vy2, rfl, hp13, hn13, hb13⟩
        have S13 := Lib.hid (S12x.out.add (inT vy2 l2) hb13 hp13 hn13)
        clear S12x hp13 hn13 hb13
        go_wp2_with fail
        refine (HE2.out _ _ _ (S13.out.nth 4 _ rfl) (S13.out.nth 0 _ rfl)).mono ?_
        rintro e w14 ⟨rfl, hb14⟩
        have S14 := Lib.hid (S13.out.more hb14)
        clear S13 hb14
        obtain ⟨cq0, cq1, cq2, cq3⟩ := (S14.out.box 5 _ _ rfl).fourFo
        go_wp2_with fail
        refine (HM0.out _ _ (S14.out.nth 6 _ rfl)).mono ?_
        rintro e w15 ⟨rfl, ht15, hm15⟩
        have S15 := Lib.hid (S14.out.put 6 _ rfl ht15 (fun k hk => hk) (foM (foV f0 d0 b0 (.slice Ax0 l0.length qx0)) (1) l0.length) hm15 (fun k hk => .inl hk))
        clear S14 cq0 cq1 cq2 cq3 ht15 hm15
        go_wp2_with fail
        refine (HM2.out _ _ (S15.out.nth 4 _ rfl)).mono ?_
        rintro e w16 ⟨rfl, ht16, hm16⟩
        have S16 := Lib.hid (S15.out.put 4 _ rfl ht16 (fun k hk => hk) (inMk vx2 (1 + l0.length) l2.length) hm16 (fun k hk => .inl hk))
        clear S15 ht16 hm16
        obtain ⟨cq0, cq1, cq2, cq3⟩ := (S16.out.box 2 _ _ rfl).fourFo
        obtain ⟨dq0, dq1, dq2, dq3⟩ := (S16.out.box 7 _ _ rfl).fourFo
        go_wp2_with fail
        refine (HER0.out _ _ _ (S16.out.nth 3 _ rfl) (S16.out.nth 8 _ rfl)).mono ?_
        rintro e w17 ⟨rfl, hb17⟩
        have S17 := Lib.hid (S16.out.more hb17)
        clear S16 cq0 cq1 cq2 cq3 dq0 dq1 dq2 dq3 hb17
        obtain ⟨cq0, cq1, cq2, cq3⟩ := (S17.out.box 2 _ _ rfl).fourFo
        go_wp2_with fail
        refine (HMR0.out _ _ (S17.out.nth 3 _ rfl)).mono ?_
        rintro e w18 ⟨rfl, ht18, hm18⟩
        have S18 := Lib.hid (S17.out.put 3 _ rfl ht18 (fun k hk => hk) (foM (foV fr0 dr0 br0 (.slice Aug0 lr0.length qug0)) (1) lr0.length) hm18 (fun k hk => .inl hk))
        clear S17 cq0 cq1 cq2 cq3 ht18 hm18
        obtain ⟨cq0, cq1, cq2, cq3⟩ := (S18.out.box 2 _ _ rfl).fourFo
        go_wp2_with fail
        refine (HHR0.out _ _ (S18.out.nth 3 _ rfl)).mono ?_
        rintro e w19 ⟨rfl, hb19⟩
        have S19 := Lib.hid (S18.out.more hb19)
        clear S18 cq0 cq1 cq2 cq3 hb19
        obtain ⟨cq0, cq1, cq2, cq3⟩ := (S19.out.box 11 _ _ rfl).fourFo
        go_wp2_with fail
        refine (HT0.out _ S19.out.below).mono ?_
        rintro e w20 ⟨vz0, rfl, hp20, hn20, hb20⟩
        have S20 := Lib.hid (S19.out.add (foT vz0 f0 d0 b0 l0) hb20 hp20 hn20)
        clear S19 cq0 cq1 cq2 cq3 hp20 hn20 hb20
        go_wp2_with fail
        refine (HT2.out _ S20.out.below).mono ?_
        rintro e w21 ⟨vz2, rfl, hp21, hn21, hb21⟩
        have S21 := Lib.hid (S20.out.add (inT vz2 l2) hb21 hp21 hn21)
        clear S20 hp21 hn21 hb21
        go_wp2_with fail
        refine (HY.out _ _ _ (S21.out.nth 1 _ rfl) (S21.out.nth 0 _ rfl)).mono ?_
        rintro e w22 ⟨uh0, rfl, hp22_0, hn22_0, hb22⟩
        obtain ⟨Auh0, quh0, rfl, _⟩ := id hp22_0
        have S22 := Lib.hid (((S21.out.add (foT (foV fr0 dr0 br0 (.slice Auh0 lr0.length quh0)) fr0 dr0 br0 lr0) hb22 hp22_0 hn22_0)).made (foL fr0 dr0 br0 (.slice Auh0 lr0.length quh0)) 24)
        clear S21 hb22 hp22_0 hn22_0
        obtain ⟨cq0, cq1, cq2, cq3⟩ := (S22.out.box 0 _ _ rfl).fourFo
        obtain ⟨dq0, dq1, dq2, dq3⟩ := (S22.out.box 11 _ _ rfl).fourFo
        go_wp2_with fail
        refine (HER0.out _ _ _ (S22.out.nth 1 _ rfl) (S22.out.nth 12 _ rfl)).mono ?_
        rintro e w23 ⟨rfl, hb23⟩
        have S23 := Lib.hid (S22.out.more hb23)
        clear S22 cq0 cq1 cq2 cq3 dq0 dq1 dq2 dq3 hb23
        obtain ⟨cq0, cq1, cq2, cq3⟩ := (S23.out.box 6 _ _ rfl).fourFo
        go_wp2_with fail
        refine (HHR0.out _ _ (S23.out.nth 7 _ rfl)).mono ?_
        rintro e w24 ⟨rfl, hb24⟩
        have S24 := Lib.hid (S23.out.more hb24)
        clear S23 cq0 cq1 cq2 cq3 hb24
        go_wp2
        go_ret
        exact ⟨rfl, S24.out.below⟩
    · rw [szW_no hL] at HS
      clear hL il0 il2
      obtain ⟨cq0, cq1, cq2, cq3⟩ := (S0.out.box 0 _ _ rfl).fourFo
      go_enter Try.func5, Try.ntmps5
      go_wp2_with fail
      refine HS.out.mono ?_
      rintro e w1 ⟨rfl, hf1⟩
      have S1 := Lib.hid (S0.out.more hf1.below)
      clear hf1 cq0 cq1 cq2 cq3 HS
      go_wp2
      go_ret
      exact ⟨rfl, S1.out.below⟩
  · have dl2 : decide (1048576 < l2.length) = true := by simp; omega
    have el2 : decide ((1048576 : Int) < (l2.length : Int)) = true := by simp; omega
    clear Ll2
    go_enter Try.func5, Try.ntmps5
    go_wp2
    go_ret
    exact ⟨rfl, S0.out.below⟩
end Go.Proofs.Ytjcdekonidekcag
