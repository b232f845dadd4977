/- What this text proves: the law of FnExactFileOutOk: the program and the model answer alike, for all arguments; the arguments stay; the answer owns its memory. -/
import Derived.Test.YtjcdekonidekcafFoK
import Derived.Test.YtjcdekonidekcafFo
import Derived.Deep.RegionHeld3
namespace Go.Proofs.Ytjcdekonidekcaf
open Go.ChangeShapes Go.WideShapes Go.ChangeAt Go.RowKit
set_option linter.unusedVariables false

set_option maxRecDepth 20000 in
set_option maxHeartbeats 8000000 in
theorem law_fileoutok (f0 : Int) (d0 : ByteArray) (A0 : Option Addr) (l0 : List Int) (q0 : Nat) (b0 : Bool) (zd0 : d0.size ≤ maxLen) (hl0 : l0.length ≤ maxLen) (w : World) (il0 : LsI 1 w w.heap.size A0 (l0.map inC)) :
    Calls Try.prog 8 #[(foV f0 d0 b0 (.slice A0 l0.length q0))] w fun e w' => e = .returned (.bool true) ∧ Below w.heap.size w w' := by
  have S0 := Lib.hid (show St w (w.alloc (.cells (foL f0 d0 b0 (.slice A0 l0.length q0)).toArray 43)) [boxT (w.heap.size) (foL f0 d0 b0 (.slice A0 l0.length q0))] from by first | exact ((St.start w).made (foL f0 d0 b0 (.slice A0 l0.length q0)) 43) | (have h := ((St.start w).made (foL f0 d0 b0 (.slice A0 l0.length q0)) 43); simpa using h))
  have HS := Lib.hid (sz_fo f0 d0 b0 A0 l0 q0 1048576 hl0 zd0 (Nat.le_refl _) (w.alloc (.cells (foL f0 d0 b0 (.slice A0 l0.length q0)).toArray 43)))
  by_cases hL : d0.size + l0.length ≤ 1048576
  · rw [szW_yes hL] at HS
    have dL : decide (((1048576 - (d0.size + l0.length) : Nat) : Int) < 0) = false := decide_eq_false (by omega)
    generalize ((1048576 - (d0.size + l0.length) : Nat) : Int) = LE at *
    have bd0 : d0.size ≤ 1048576 := by omega
    have bl0 : l0.length ≤ 1048576 := by omega
    have HT0 := Lib.hid (fun W (hb : Below w.heap.size w W) => to_fo f0 d0 b0 A0 l0 q0 (by omega) W (il0.full hb))
    have HE0 := Lib.hid (fun v1 v2 W => eq_fo f0 d0 b0 l0 (by omega) v1 v2 W)
    have hHX : ∀ (v0 : Value) (W : World) (o0 : (foT v0 f0 d0 b0 l0).P W), Calls Try.prog 28 #[v0] W (BoolEnd W (foB f0 d0 l0)) := fun v0 W o0 => by
      obtain ⟨A0', q0', rfl, o0⟩ := o0
      exact fook_spec f0 d0 A0' l0 q0' b0 (by omega) (by omega) W (LsO.ats o0)
    have hHY : ∀ (v0 : Value) (W : World) (o0 : (foT v0 f0 d0 b0 l0).P W), Calls Try.prog 30 #[v0] W (BoolEnd W (foB f0 d0 l0)) := fun v0 W o0 => by
      obtain ⟨A0', q0', rfl, o0⟩ := o0
      exact fook_impl f0 d0 A0' l0 q0' b0 (by omega) (by omega) W (LsO.ats o0)
    obtain ⟨x0, hRR⟩ : ∃ R, foB f0 d0 l0 = R := ⟨_, rfl⟩
    simp only [hRR] at hHX hHY
    have HX := Lib.hid hHX
    have HY := Lib.hid hHY
    have sf0 : (x0 != x0) = false := by simp
    clear hHX hHY hRR il0
    go_enter Try.func8, Try.ntmps8
    obtain ⟨cq0, cq1, cq2, cq3⟩ := (S0.out.box 0 _ _ rfl).fourFo
    go_wp2_with fail
    refine HS.out.mono ?_
    rintro e w1 ⟨rfl, hf1⟩
    have S1 := Lib.hid (S0.out.more hf1.below)
    clear S0 cq0 cq1 cq2 cq3 hf1 HS
    obtain ⟨cq0, cq1, cq2, cq3⟩ := (S1.out.box 0 _ _ rfl).fourFo
    go_wp2_with fail
    refine (HT0.out _ S1.out.below).mono ?_
    rintro e w2 ⟨vs0, rfl, hp2, hn2, hb2⟩
    have S2 := Lib.hid (S1.out.add (foT vs0 f0 d0 b0 l0) hb2 hp2 hn2)
    clear S1 cq0 cq1 cq2 cq3 hp2 hn2 hb2
    go_wp2_with fail
    refine (HX.out _ _ (S2.out.nth 0 _ rfl)).mono ?_
    rintro e w3 ⟨rfl, hb3⟩
    have S3 := Lib.hid (S2.out.more hb3)
    clear S2 hb3
    obtain ⟨cq0, cq1, cq2, cq3⟩ := (S3.out.box 1 _ _ rfl).fourFo
    go_wp2_with fail
    refine (HT0.out _ S3.out.below).mono ?_
    rintro e w4 ⟨vx0, rfl, hp4, hn4, hb4⟩
    have S4 := Lib.hid (S3.out.add (foT vx0 f0 d0 b0 l0) hb4 hp4 hn4)
    clear S3 cq0 cq1 cq2 cq3 hp4 hn4 hb4
    obtain ⟨Ax0, qx0, hvx0, _⟩ := id (S4.out.nth 0 _ rfl)
    subst hvx0
    have S5 := Lib.hid (S4.out.made (foL f0 d0 b0 (.slice Ax0 l0.length qx0)) 46)
    clear S4 
    obtain ⟨cq0, cq1, cq2, cq3⟩ := (S5.out.box 0 _ _ rfl).fourFo
    go_wp2_with fail
    refine (HY.out _ _ (S5.out.nth 1 _ rfl)).mono ?_
    rintro e w6 ⟨rfl, hb6⟩
    have S6 := Lib.hid (S5.out.more hb6)
    clear S5 hb6
    clear cq0 cq1 cq2 cq3
    go_wp2
    have S7 := Lib.hid S6.out.drew
    obtain ⟨kq0, kq1, kq2, kq3⟩ := (S7.out.box 3 _ _ rfl).fourFo
    obtain ⟨lq0, lq1, lq2, lq3⟩ := (S7.out.box 0 _ _ rfl).fourFo
    go_region_held3 (fun w' => w'.cell? ⟨(w.heap.size), 0, none⟩ = some (.int .i64 f0) ∧ w'.cell? ⟨(w.heap.size), 1, none⟩ = some (.string d0) ∧ w'.cell? ⟨(w.heap.size), 2, none⟩ = some (.slice A0 l0.length q0) ∧ w'.cell? ⟨(w.heap.size), 3, none⟩ = some (.bool b0) ∧ w'.cell? ⟨w4.heap.size, 0, none⟩ = some (.int .i64 f0) ∧ w'.cell? ⟨w4.heap.size, 1, none⟩ = some (.string d0) ∧ w'.cell? ⟨w4.heap.size, 2, none⟩ = some (.slice Ax0 l0.length qx0) ∧ w'.cell? ⟨w4.heap.size, 3, none⟩ = some (.bool b0)) (first | exact ⟨kq0, kq1, kq2, kq3, lq0, lq1, lq2, lq3⟩ | exact ⟨ka0, ka1, ka2, ka3, kb0, kb1, kb2, kb3⟩ | exact ⟨kc0, kc1, kc2, kc3, kd0, kd1, kd2, kd3⟩)
      (first
        | (go_at_call 29; (with_reducible refine (HT0.out _ S7.out.below).mono ?_); rintro e w8 ⟨vy0, rfl, hp8, hn8, hb8⟩; have S8 := Lib.hid (S7.out.add (foT vy0 f0 d0 b0 l0) hb8 hp8 hn8); obtain ⟨ka0, ka1, ka2, ka3⟩ := (S8.out.box 4 _ _ rfl).fourFo; obtain ⟨kb0, kb1, kb2, kb3⟩ := (S8.out.box 1 _ _ rfl).fourFo)
        | (go_at_call 31; (with_reducible refine (HE0.out _ _ _ (S8.out.nth 2 _ rfl) (S8.out.nth 0 _ rfl)).mono ?_); rintro e w9 ⟨rfl, hb9⟩; have S9 := Lib.hid (S8.out.more hb9); obtain ⟨kc0, kc1, kc2, kc3⟩ := (S9.out.box 4 _ _ rfl).fourFo; obtain ⟨kd0, kd1, kd2, kd3⟩ := (S9.out.box 1 _ _ rfl).fourFo))
    all_goals
      have S9x := Lib.hid S9.out
      clear kq0 kq1 kq2 kq3 lq0 lq1 lq2 lq3 ka0 ka1 ka2 ka3 kb0 kb1 kb2 kb3 kc0 kc1 kc2 kc3 kd0 kd1 kd2 kd3 hb8 hb9 hp8 hn8 S8 S9 S7 S6
      go_wp2
      go_ret
      exact ⟨rfl, S9x.out.below⟩
  · rw [szW_no hL] at HS
    clear hL il0
    obtain ⟨cq0, cq1, cq2, cq3⟩ := (S0.out.box 0 _ _ rfl).fourFo
    go_enter Try.func8, Try.ntmps8
    go_wp2_with fail
    refine HS.out.mono ?_
    rintro e w1 ⟨rfl, hf1⟩
    have S1 := Lib.hid (S0.out.more hf1.below)
    clear hf1 cq0 cq1 cq2 cq3 HS
    go_wp2
    go_ret
    exact ⟨rfl, S1.out.below⟩
end Go.Proofs.Ytjcdekonidekcaf
