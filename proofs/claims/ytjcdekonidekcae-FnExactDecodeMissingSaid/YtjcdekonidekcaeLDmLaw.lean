/- What this text proves: the law of FnExactDecodeMissing: the program and the model answer alike, for all arguments; the arguments stay; the answer owns its memory. -/
import Derived.Test.YtjcdekonidekcaeDmi
import Derived.Test.YtjcdekonidekcaeInU
import Derived.Deep.RegionHeld3
namespace Go.Proofs.Ytjcdekonidekcae
open Go.ChangeShapes Go.WideShapes Go.ChangeAt Go.RowKit
set_option linter.unusedVariables false

set_option maxRecDepth 20000 in
set_option maxHeartbeats 8000000 in
theorem law_decodemissing (s0 : ByteArray) (hs0 : s0.size ≤ maxLen) (w : World)  :
    Calls Try.prog 8 #[.string s0] w fun e w' => e = .returned (.bool true) ∧ Below w.heap.size w w' := by
  have S0 := Lib.hid (show St w w [] from by first | exact (St.start w) | (have h := (St.start w); simpa using h))
  have hxs0 : s0.size ≤ 9223372036854775807 := by unfold maxLen at hs0; omega
  by_cases Ls0 : s0.size ≤ 1048576
  · have ds0 : decide (1048576 < s0.size) = false := by simp; omega
    have es0 : decide ((1048576 : Int) < (s0.size : Int)) = false := by simp; omega
    have hR0 := decM_len s0
    have hHX : ∀  (W : World) , Calls Try.prog 21 #[.string s0] W (DmEnd W (decM s0)) := fun W => by
      exact dm_spec s0 Ls0 W
    have hHY : ∀  (W : World) , Calls Try.prog 22 #[.string s0] W (DmEnd W (decM s0)) := fun W => by
      exact dm_impl s0 Ls0 W
    obtain ⟨RR, hRR⟩ : ∃ R, decM s0 = R := ⟨_, rfl⟩
    simp only [hRR] at hHX hHY hR0
    obtain ⟨x0, lr1, x2⟩ := RR
    have HX := Lib.hid hHX
    have HY := Lib.hid hHY
    have bR1 : lr1.length ≤ 1048600 := by first | exact hR0 | (have h := hR0; simp only at h; omega)
    have HER1 := Lib.hid (fun v1 v2 W => eq_in  lr1 (by omega) v1 v2 W)
    have HMR1 := Lib.hid (fun v W => mark_in  lr1 (by omega) v (1) (by omega) (by omega) W)
    have HHR1 := Lib.hid (fun v W => held_in lr1.length (by omega) v (1) (by omega) (by omega) W)
    obtain ⟨kk0, hkk0⟩ : ∃ k, ((1 + lr1.length : Nat) : Int) = k := ⟨_, rfl⟩
    have zkk0 : decide (kk0 < 0) = false := decide_eq_false (by omega)
    have ykk0 : (kk0 != kk0) = false := by simp
    simp only [hkk0] at HMR1 HHR1
    have sf0 : (x0 != x0) = false := by simp
    have sf2 : (x2 != x2) = false := by simp
    clear hHX hHY hRR hkk0 hR0
    go_enter Try.func8, Try.ntmps8
    go_wp2_with fail
    refine (HX.out _).mono ?_
    rintro e w1 ⟨uw1, rfl, hp1_1, hn1_1, hb1⟩
    have S1 := Lib.hid (S0.out.add (inT uw1 lr1) hb1 hp1_1 hn1_1)
    clear S0 hb1 hp1_1 hn1_1
    go_wp2_with fail
    refine (HY.out _).mono ?_
    rintro e w2 ⟨ug1, rfl, hp2_1, hn2_1, hb2⟩
    have S2 := Lib.hid (S1.out.add (inT ug1 lr1) hb2 hp2_1 hn2_1)
    clear S1 hb2 hp2_1 hn2_1
    go_wp2_with fail
    refine (HER1.out _ _ _ (S2.out.nth 0 _ rfl) (S2.out.nth 1 _ rfl)).mono ?_
    rintro e w3 ⟨rfl, hb3⟩
    have S3 := Lib.hid (S2.out.more hb3)
    clear S2 hb3
    go_wp2_with fail
    refine (HMR1.out _ _ (S3.out.nth 0 _ rfl)).mono ?_
    rintro e w4 ⟨rfl, ht4, hm4⟩
    have S4 := Lib.hid (S3.out.put 0 _ rfl ht4 (fun k hk => hk) (inMk ug1 (1) lr1.length) hm4 (fun k hk => .inl hk))
    clear S3 ht4 hm4
    go_wp2_with fail
    refine (HHR1.out _ _ (S4.out.nth 0 _ rfl)).mono ?_
    rintro e w5 ⟨rfl, hb5⟩
    have S5 := Lib.hid (S4.out.more hb5)
    clear S4 hb5
    go_wp2_with fail
    refine (HY.out _).mono ?_
    rintro e w6 ⟨uh1, rfl, hp6_1, hn6_1, hb6⟩
    have S6 := Lib.hid (S5.out.add (inT uh1 lr1) hb6 hp6_1 hn6_1)
    clear S5 hb6 hp6_1 hn6_1
    go_wp2_with fail
    refine (HER1.out _ _ _ (S6.out.nth 0 _ rfl) (S6.out.nth 2 _ rfl)).mono ?_
    rintro e w7 ⟨rfl, hb7⟩
    have S7 := Lib.hid (S6.out.more hb7)
    clear S6 hb7
    go_wp2_with fail
    refine (HHR1.out _ _ (S7.out.nth 1 _ rfl)).mono ?_
    rintro e w8 ⟨rfl, hb8⟩
    have S8 := Lib.hid (S7.out.more hb8)
    clear S7 hb8
    go_wp2
    go_ret
    exact ⟨rfl, S8.out.below⟩
  · have ds0 : decide (1048576 < s0.size) = true := by simp; omega
    have es0 : decide ((1048576 : Int) < (s0.size : Int)) = true := by simp; omega
    clear Ls0
    go_enter Try.func8, Try.ntmps8
    go_wp2
    go_ret
    exact ⟨rfl, S0.out.below⟩
end Go.Proofs.Ytjcdekonidekcae
