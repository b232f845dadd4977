/- What this text proves: the law of FnExactNewFileOut: the program and the model answer alike, for all arguments; the arguments stay; the answer owns its memory. -/
import Derived.Test.YtjcdekonidekcagFoN
import Derived.Test.YtjcdekonidekcagFo
import Derived.Deep.RegionHeld3
namespace Go.Proofs.Ytjcdekonidekcag
open Go.ChangeShapes Go.WideShapes Go.ChangeAt Go.RowKit
set_option linter.unusedVariables false

set_option maxRecDepth 20000 in
set_option maxHeartbeats 8000000 in
theorem law_newfileout (i0 : Int) (s1 : ByteArray) (_ : -9223372036854775808 ≤ i0 ∧ i0 ≤ 9223372036854775807) (hs1 : s1.size ≤ maxLen) (w : World)  :
    Calls Try.prog 3 #[.int .i64 i0, .string s1] w fun e w' => e = .returned (.bool true) ∧ Below w.heap.size w w' := by
  have S0 := Lib.hid (show St w w [] from by first | exact (St.start w) | (have h := (St.start w); simpa using h))
  have hxs1 : s1.size ≤ 9223372036854775807 := by unfold maxLen at hs1; omega
  by_cases Ls1 : s1.size ≤ 1048576
  · have ds1 : decide (1048576 < s1.size) = false := by simp; omega
    have es1 : decide ((1048576 : Int) < (s1.size : Int)) = false := by simp; omega
    have hR0 := newO_len i0 s1
    have hHX : ∀  (W : World) , Calls Try.prog 6 #[.int .i64 i0, .string s1] W (FobEnd W (newO i0 s1)) := fun W => by
      exact nfo_spec i0 s1 Ls1 W
    have hHY : ∀  (W : World) , Calls Try.prog 7 #[.int .i64 i0, .string s1] W (FobEnd W (newO i0 s1)) := fun W => by
      exact nfo_impl i0 s1 Ls1 W
    obtain ⟨RR, hRR⟩ : ∃ R, newO i0 s1 = R := ⟨_, rfl⟩
    simp only [hRR] at hHX hHY hR0
    obtain ⟨fr0, dr0, lr0, br0, x1⟩ := RR
    have HX := Lib.hid hHX
    have HY := Lib.hid hHY
    have bR0 : lr0.length ≤ 1048600 := by have h : lr0.length ≤ _ := hR0; omega
    have HER0 := Lib.hid (fun v1 v2 W => eq_fo fr0 dr0 br0 lr0 (by omega) v1 v2 W)
    have HMR0 := Lib.hid (fun v W => mark_fo fr0 dr0 br0 lr0 (by omega) v (1) (by omega) (by omega) W)
    have HHR0 := Lib.hid (fun v W => held_fo lr0.length (by omega) v (1) (by omega) (by omega) W)
    obtain ⟨kk0, hkk0⟩ : ∃ k, ((1 + lr0.length : Nat) : Int) = k := ⟨_, rfl⟩
    have zkk0 : decide (kk0 < 0) = false := decide_eq_false (by omega)
    have ykk0 : (kk0 != kk0) = false := by simp
    simp only [hkk0] at HMR0 HHR0
    have sf1 : (x1 != x1) = false := by simp
    clear hHX hHY hRR hkk0 hR0
    go_enter Try.func3, Try.ntmps3
    go_wp2_with fail
    refine (HX.out _).mono ?_
    rintro e w1 ⟨uw0, rfl, hp1_0, hn1_0, hb1⟩
    obtain ⟨Auw0, quw0, rfl, _⟩ := id hp1_0
    have S1 := Lib.hid (((S0.out.add (foT (foV fr0 dr0 br0 (.slice Auw0 lr0.length quw0)) fr0 dr0 br0 lr0) hb1 hp1_0 hn1_0)).made (foL fr0 dr0 br0 (.slice Auw0 lr0.length quw0)) 24)
    clear S0 hb1 hp1_0 hn1_0
    go_wp2_with fail
    refine (HY.out _).mono ?_
    rintro e w2 ⟨ug0, rfl, hp2_0, hn2_0, hb2⟩
    obtain ⟨Aug0, qug0, rfl, _⟩ := id hp2_0
    have S2 := Lib.hid (((S1.out.add (foT (foV fr0 dr0 br0 (.slice Aug0 lr0.length qug0)) fr0 dr0 br0 lr0) hb2 hp2_0 hn2_0)).made (foL fr0 dr0 br0 (.slice Aug0 lr0.length qug0)) 24)
    clear S1 hb2 hp2_0 hn2_0
    obtain ⟨cq0, cq1, cq2, cq3⟩ := (S2.out.box 0 _ _ rfl).fourFo
    obtain ⟨dq0, dq1, dq2, dq3⟩ := (S2.out.box 2 _ _ rfl).fourFo
    go_wp2_with fail
    refine (HER0.out _ _ _ (S2.out.nth 1 _ rfl) (S2.out.nth 3 _ rfl)).mono ?_
    rintro e w3 ⟨rfl, hb3⟩
    have S3 := Lib.hid (S2.out.more hb3)
    clear S2 cq0 cq1 cq2 cq3 dq0 dq1 dq2 dq3 hb3
    obtain ⟨cq0, cq1, cq2, cq3⟩ := (S3.out.box 0 _ _ rfl).fourFo
    go_wp2_with fail
    refine (HMR0.out _ _ (S3.out.nth 1 _ rfl)).mono ?_
    rintro e w4 ⟨rfl, ht4, hm4⟩
    have S4 := Lib.hid (S3.out.put 1 _ rfl ht4 (fun k hk => hk) (foM (foV fr0 dr0 br0 (.slice Aug0 lr0.length qug0)) (1) lr0.length) hm4 (fun k hk => .inl hk))
    clear S3 cq0 cq1 cq2 cq3 ht4 hm4
    obtain ⟨cq0, cq1, cq2, cq3⟩ := (S4.out.box 0 _ _ rfl).fourFo
    go_wp2_with fail
    refine (HHR0.out _ _ (S4.out.nth 1 _ rfl)).mono ?_
    rintro e w5 ⟨rfl, hb5⟩
    have S5 := Lib.hid (S4.out.more hb5)
    clear S4 cq0 cq1 cq2 cq3 hb5
    go_wp2_with fail
    refine (HY.out _).mono ?_
    rintro e w6 ⟨uh0, rfl, hp6_0, hn6_0, hb6⟩
    obtain ⟨Auh0, quh0, rfl, _⟩ := id hp6_0
    have S6 := Lib.hid (((S5.out.add (foT (foV fr0 dr0 br0 (.slice Auh0 lr0.length quh0)) fr0 dr0 br0 lr0) hb6 hp6_0 hn6_0)).made (foL fr0 dr0 br0 (.slice Auh0 lr0.length quh0)) 24)
    clear S5 hb6 hp6_0 hn6_0
    obtain ⟨cq0, cq1, cq2, cq3⟩ := (S6.out.box 0 _ _ rfl).fourFo
    obtain ⟨dq0, dq1, dq2, dq3⟩ := (S6.out.box 4 _ _ rfl).fourFo
    go_wp2_with fail
    refine (HER0.out _ _ _ (S6.out.nth 1 _ rfl) (S6.out.nth 5 _ rfl)).mono ?_
    rintro e w7 ⟨rfl, hb7⟩
    have S7 := Lib.hid (S6.out.more hb7)
    clear S6 cq0 cq1 cq2 cq3 dq0 dq1 dq2 dq3 hb7
    obtain ⟨cq0, cq1, cq2, cq3⟩ := (S7.out.box 2 _ _ rfl).fourFo
    go_wp2_with fail
    refine (HHR0.out _ _ (S7.out.nth 3 _ rfl)).mono ?_
    rintro e w8 ⟨rfl, hb8⟩
    have S8 := Lib.hid (S7.out.more hb8)
    clear S7 cq0 cq1 cq2 cq3 hb8
    go_wp2
    go_ret
    exact ⟨rfl, S8.out.below⟩
  · have ds1 : decide (1048576 < s1.size) = true := by simp; omega
    have es1 : decide ((1048576 : Int) < (s1.size : Int)) = true := by simp; omega
    clear Ls1
    go_enter Try.func3, Try.ntmps3
    go_wp2
    go_ret
    exact ⟨rfl, S0.out.below⟩
end Go.Proofs.Ytjcdekonidekcag
