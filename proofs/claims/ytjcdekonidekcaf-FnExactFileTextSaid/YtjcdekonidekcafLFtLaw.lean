/- What this text proves: the law of FnExactFileText: the program and the model answer alike, for all arguments; the arguments stay; the answer owns its memory. -/
import Derived.Test.YtjcdekonidekcafFit
import Derived.Test.YtjcdekonidekcafFi
import Derived.Deep.RegionHeld3
namespace Go.Proofs.Ytjcdekonidekcaf
open Go.ChangeShapes Go.WideShapes Go.ChangeAt Go.RowKit
set_option linter.unusedVariables false

set_option maxRecDepth 20000 in
set_option maxHeartbeats 8000000 in
theorem law_filetext (f0 : Int) (s0 : Int) (c0 : Int) (A0 : Option Addr) (l0 : List ByteArray) (q0 : Nat) (hl0 : l0.length ≤ maxLen) (zl0 : ∀ j (hj : j < l0.length), l0[j].size ≤ maxLen) (w : World) (il0 : LsI 1 w w.heap.size A0 (l0.map txC)) :
    Calls Try.prog 7 #[(fiV f0 s0 c0 (.slice A0 l0.length q0))] w fun e w' => e = .returned (.bool true) ∧ Below w.heap.size w w' := by
  have S0 := Lib.hid (show St w (w.alloc (.cells (fiL f0 s0 c0 (.slice A0 l0.length q0)).toArray 24)) [boxT (w.heap.size) (fiL f0 s0 c0 (.slice A0 l0.length q0))] from by first | exact ((St.start w).made (fiL f0 s0 c0 (.slice A0 l0.length q0)) 24) | (have h := ((St.start w).made (fiL f0 s0 c0 (.slice A0 l0.length q0)) 24); simpa using h))
  have HS := Lib.hid (sz_fi f0 s0 c0 A0 l0 q0 1048576 hl0 zl0 (Nat.le_refl _) (w.alloc (.cells (fiL f0 s0 c0 (.slice A0 l0.length q0)).toArray 24)) (il0.full S0.out.below))
  by_cases hL : l0.length + totTx l0 l0.length ≤ 1048576
  · rw [szV_yes hL] at HS
    have dL : decide (((1048576 - (l0.length + totTx l0 l0.length) : Nat) : Int) < 0) = false := decide_eq_false (by omega)
    generalize ((1048576 - (l0.length + totTx l0 l0.length) : Nat) : Int) = LE at *
    have bl0 : l0.length ≤ 1048576 := by omega
    have HT0 := Lib.hid (fun W (hb : Below w.heap.size w W) => to_fi f0 s0 c0 A0 l0 q0 (by omega) W (il0.full hb))
    have HE0 := Lib.hid (fun v1 v2 W => eq_fi f0 s0 c0 l0 (by omega) v1 v2 W)
    have hHX : ∀ (v0 : Value) (W : World) (o0 : (fiT v0 f0 s0 c0 l0).P W), Calls Try.prog 25 #[v0] W (FtEnd W (ftR f0 s0 c0 l0)) := fun v0 W o0 => by
      obtain ⟨A0', q0', rfl, o0⟩ := o0
      exact ft_spec f0 s0 c0 A0' l0 q0' (by omega) W (LsO.ats o0)
    have hHY : ∀ (v0 : Value) (W : World) (o0 : (fiT v0 f0 s0 c0 l0).P W), Calls Try.prog 26 #[v0] W (FtEnd W (ftR f0 s0 c0 l0)) := fun v0 W o0 => by
      obtain ⟨A0', q0', rfl, o0⟩ := o0
      exact ft_impl f0 s0 c0 A0' l0 q0' (by omega) (o0.cap _ _ _ rfl) W (LsO.ats o0)
    obtain ⟨RR, hRR⟩ : ∃ R, ftR f0 s0 c0 l0 = R := ⟨_, rfl⟩
    simp only [hRR] at hHX hHY
    obtain ⟨x0, x1⟩ := RR
    have HX := Lib.hid hHX
    have HY := Lib.hid hHY
    have sf0 : (x0.toList == x0.toList) = true := beq_self_eq_true _
    have sf1 : (x1 != x1) = false := by simp
    clear hHX hHY hRR il0
    go_enter Try.func7, Try.ntmps7
    obtain ⟨cq0, cq1, cq2, cq3⟩ := (S0.out.box 0 _ _ rfl).fourFi
    go_wp2_with fail
    refine HS.out.mono ?_
    rintro e w1 ⟨rfl, hf1⟩
    have S1 := Lib.hid (S0.out.more hf1.below)
    clear S0 cq0 cq1 cq2 cq3 hf1 HS
    obtain ⟨cq0, cq1, cq2, cq3⟩ := (S1.out.box 0 _ _ rfl).fourFi
    go_wp2_with fail
    refine (HT0.out _ S1.out.below).mono ?_
    rintro e w2 ⟨vs0, rfl, hp2, hn2, hb2⟩
    have S2 := Lib.hid (S1.out.add (fiT vs0 f0 s0 c0 l0) hb2 hp2 hn2)
    clear S1 cq0 cq1 cq2 cq3 hp2 hn2 hb2
    go_wp2_with fail
    refine (HX.out _ _ (S2.out.nth 0 _ rfl)).mono ?_
    rintro e w3 ⟨rfl, hb3⟩
    have S3 := Lib.hid (S2.out.more hb3)
    clear S2 hb3
    obtain ⟨cq0, cq1, cq2, cq3⟩ := (S3.out.box 1 _ _ rfl).fourFi
    go_wp2_with fail
    refine (HT0.out _ S3.out.below).mono ?_
    rintro e w4 ⟨vx0, rfl, hp4, hn4, hb4⟩
    have S4 := Lib.hid (S3.out.add (fiT vx0 f0 s0 c0 l0) hb4 hp4 hn4)
    clear S3 cq0 cq1 cq2 cq3 hp4 hn4 hb4
    obtain ⟨Ax0, qx0, hvx0, _⟩ := id (S4.out.nth 0 _ rfl)
    subst hvx0
    have S5 := Lib.hid (S4.out.made (fiL f0 s0 c0 (.slice Ax0 l0.length qx0)) 27)
    clear S4 
    obtain ⟨cq0, cq1, cq2, cq3⟩ := (S5.out.box 0 _ _ rfl).fourFi
    go_wp2_with fail
    refine (HY.out _ _ (S5.out.nth 1 _ rfl)).mono ?_
    rintro e w6 ⟨rfl, hb6⟩
    have S6 := Lib.hid (S5.out.more hb6)
    clear S5 hb6
    clear cq0 cq1 cq2 cq3
    go_wp2
    have S7 := Lib.hid S6.out.drew
    obtain ⟨kq0, kq1, kq2, kq3⟩ := (S7.out.box 3 _ _ rfl).fourFi
    obtain ⟨lq0, lq1, lq2, lq3⟩ := (S7.out.box 0 _ _ rfl).fourFi
    go_region_held3 (fun w' => w'.cell? ⟨(w.heap.size), 0, none⟩ = some (.int .i64 f0) ∧ w'.cell? ⟨(w.heap.size), 1, none⟩ = some (.int .i64 s0) ∧ w'.cell? ⟨(w.heap.size), 2, none⟩ = some (.int .i64 c0) ∧ w'.cell? ⟨(w.heap.size), 3, none⟩ = some (.slice A0 l0.length q0) ∧ w'.cell? ⟨w4.heap.size, 0, none⟩ = some (.int .i64 f0) ∧ w'.cell? ⟨w4.heap.size, 1, none⟩ = some (.int .i64 s0) ∧ w'.cell? ⟨w4.heap.size, 2, none⟩ = some (.int .i64 c0) ∧ w'.cell? ⟨w4.heap.size, 3, none⟩ = some (.slice Ax0 l0.length qx0)) (first | exact ⟨kq0, kq1, kq2, kq3, lq0, lq1, lq2, lq3⟩ | exact ⟨ka0, ka1, ka2, ka3, kb0, kb1, kb2, kb3⟩ | exact ⟨kc0, kc1, kc2, kc3, kd0, kd1, kd2, kd3⟩)
      (first
        | (go_at_call 11; (with_reducible refine (HT0.out _ S7.out.below).mono ?_); rintro e w8 ⟨vy0, rfl, hp8, hn8, hb8⟩; have S8 := Lib.hid (S7.out.add (fiT vy0 f0 s0 c0 l0) hb8 hp8 hn8); obtain ⟨ka0, ka1, ka2, ka3⟩ := (S8.out.box 4 _ _ rfl).fourFi; obtain ⟨kb0, kb1, kb2, kb3⟩ := (S8.out.box 1 _ _ rfl).fourFi)
        | (go_at_call 13; (with_reducible refine (HE0.out _ _ _ (S8.out.nth 2 _ rfl) (S8.out.nth 0 _ rfl)).mono ?_); rintro e w9 ⟨rfl, hb9⟩; have S9 := Lib.hid (S8.out.more hb9); obtain ⟨kc0, kc1, kc2, kc3⟩ := (S9.out.box 4 _ _ rfl).fourFi; obtain ⟨kd0, kd1, kd2, kd3⟩ := (S9.out.box 1 _ _ rfl).fourFi))
    all_goals
      have S9x := Lib.hid S9.out
      clear kq0 kq1 kq2 kq3 lq0 lq1 lq2 lq3 ka0 ka1 ka2 ka3 kb0 kb1 kb2 kb3 kc0 kc1 kc2 kc3 kd0 kd1 kd2 kd3 hb8 hb9 hp8 hn8 S8 S9 S7 S6
      go_wp2
      go_ret
      exact ⟨rfl, S9x.out.below⟩
  · rw [szV_no hL] at HS
    clear hL il0
    obtain ⟨cq0, cq1, cq2, cq3⟩ := (S0.out.box 0 _ _ rfl).fourFi
    go_enter Try.func7, Try.ntmps7
    go_wp2_with fail
    refine HS.out.mono ?_
    rintro e w1 ⟨rfl, hf1⟩
    have S1 := Lib.hid (S0.out.more hf1.below)
    clear hf1 cq0 cq1 cq2 cq3 HS
    go_wp2
    go_ret
    exact ⟨rfl, S1.out.below⟩
end Go.Proofs.Ytjcdekonidekcaf
