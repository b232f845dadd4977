/- What this text proves: the law of FnExactNewFileIn: the program and the model answer alike, for all arguments; the arguments stay; the answer owns its memory. -/
import Derived.Test.YtjcdekonidekcafFiK
import Derived.Test.YtjcdekonidekcafFi
import Derived.Deep.RegionHeld3
namespace Go.Proofs.Ytjcdekonidekcaf
open Go.ChangeShapes Go.WideShapes Go.ChangeAt Go.RowKit
set_option linter.unusedVariables false

set_option maxRecDepth 20000 in
set_option maxHeartbeats 8000000 in
theorem law_newfilein (i0 : Int) (_ : -9223372036854775808 ≤ i0 ∧ i0 ≤ 9223372036854775807) (w : World)  :
    Calls Try.prog 4 #[.int .i64 i0] w fun e w' => e = .returned (.bool true) ∧ Below w.heap.size w w' := by
  have S0 := Lib.hid (show St w w [] from by first | exact (St.start w) | (have h := (St.start w); simpa using h))
  have hR0 := nfiR_len i0
  have hHX : ∀  (W : World) , Calls Try.prog 14 #[.int .i64 i0] W (FiEnd W (nfiR i0)) := fun W => by
    exact nfi_spec i0 W
  have hHY : ∀  (W : World) , Calls Try.prog 15 #[.int .i64 i0] W (FiEnd W (nfiR i0)) := fun W => by
    exact nfi_impl i0 W
  obtain ⟨RR, hRR⟩ : ∃ R, nfiR i0 = R := ⟨_, rfl⟩
  simp only [hRR] at hHX hHY hR0
  obtain ⟨fr0, sr0, cr0, lr0⟩ := RR
  have HX := Lib.hid hHX
  have HY := Lib.hid hHY
  have bR0 : lr0.length ≤ 1048600 := by have h : lr0.length ≤ _ := hR0; omega
  have HER0 := Lib.hid (fun v1 v2 W => eq_fi fr0 sr0 cr0 lr0 (by omega) v1 v2 W)
  have HMR0 := Lib.hid (fun v W => mark_fi fr0 sr0 cr0 lr0 (by omega) v (1) (by omega) (by omega) W)
  have HHR0 := Lib.hid (fun v W => held_fi lr0.length (by omega) v (1) (by omega) (by omega) W)
  obtain ⟨kk0, hkk0⟩ : ∃ k, ((1 + lr0.length : Nat) : Int) = k := ⟨_, rfl⟩
  have zkk0 : decide (kk0 < 0) = false := decide_eq_false (by omega)
  have ykk0 : (kk0 != kk0) = false := by simp
  simp only [hkk0] at HMR0 HHR0
  clear hHX hHY hRR hkk0 hR0
  go_enter Try.func4, Try.ntmps4
  go_wp2_with fail
  refine (HX.out _).mono ?_
  rintro e w1 ⟨uw0, rfl, hp1_0, hn1_0, hb1⟩
  obtain ⟨Auw0, quw0, rfl, _⟩ := id hp1_0
  have S1 := Lib.hid (((S0.out.add (fiT (fiV fr0 sr0 cr0 (.slice Auw0 lr0.length quw0)) fr0 sr0 cr0 lr0) hb1 hp1_0 hn1_0)).made (fiL fr0 sr0 cr0 (.slice Auw0 lr0.length quw0)) 27)
  clear S0 hb1 hp1_0 hn1_0
  go_wp2_with fail
  refine (HY.out _).mono ?_
  rintro e w2 ⟨ug0, rfl, hp2_0, hn2_0, hb2⟩
  obtain ⟨Aug0, qug0, rfl, _⟩ := id hp2_0
  have S2 := Lib.hid (((S1.out.add (fiT (fiV fr0 sr0 cr0 (.slice Aug0 lr0.length qug0)) fr0 sr0 cr0 lr0) hb2 hp2_0 hn2_0)).made (fiL fr0 sr0 cr0 (.slice Aug0 lr0.length qug0)) 27)
  clear S1 hb2 hp2_0 hn2_0
  obtain ⟨cq0, cq1, cq2, cq3⟩ := (S2.out.box 0 _ _ rfl).fourFi
  obtain ⟨dq0, dq1, dq2, dq3⟩ := (S2.out.box 2 _ _ rfl).fourFi
  go_wp2_with fail
  refine (HER0.out _ _ _ (S2.out.nth 1 _ rfl) (S2.out.nth 3 _ rfl)).mono ?_
  rintro e w3 ⟨rfl, hb3⟩
  have S3 := Lib.hid (S2.out.more hb3)
  clear S2 cq0 cq1 cq2 cq3 dq0 dq1 dq2 dq3 hb3
  obtain ⟨cq0, cq1, cq2, cq3⟩ := (S3.out.box 0 _ _ rfl).fourFi
  go_wp2_with fail
  refine (HMR0.out _ _ (S3.out.nth 1 _ rfl)).mono ?_
  rintro e w4 ⟨rfl, ht4, hm4⟩
  have S4 := Lib.hid (S3.out.put 1 _ rfl ht4 (fun k hk => hk) (fiM (fiV fr0 sr0 cr0 (.slice Aug0 lr0.length qug0)) (1) lr0.length) hm4 (fun k hk => .inl hk))
  clear S3 cq0 cq1 cq2 cq3 ht4 hm4
  obtain ⟨cq0, cq1, cq2, cq3⟩ := (S4.out.box 0 _ _ rfl).fourFi
  go_wp2_with fail
  refine (HHR0.out _ _ (S4.out.nth 1 _ rfl)).mono ?_
  rintro e w5 ⟨rfl, hb5⟩
  have S5 := Lib.hid (S4.out.more hb5)
  clear S4 cq0 cq1 cq2 cq3 hb5
  go_wp2_with fail
  refine (HY.out _).mono ?_
  rintro e w6 ⟨uh0, rfl, hp6_0, hn6_0, hb6⟩
  obtain ⟨Auh0, quh0, rfl, _⟩ := id hp6_0
  have S6 := Lib.hid (((S5.out.add (fiT (fiV fr0 sr0 cr0 (.slice Auh0 lr0.length quh0)) fr0 sr0 cr0 lr0) hb6 hp6_0 hn6_0)).made (fiL fr0 sr0 cr0 (.slice Auh0 lr0.length quh0)) 27)
  clear S5 hb6 hp6_0 hn6_0
  obtain ⟨cq0, cq1, cq2, cq3⟩ := (S6.out.box 0 _ _ rfl).fourFi
  obtain ⟨dq0, dq1, dq2, dq3⟩ := (S6.out.box 4 _ _ rfl).fourFi
  go_wp2_with fail
  refine (HER0.out _ _ _ (S6.out.nth 1 _ rfl) (S6.out.nth 5 _ rfl)).mono ?_
  rintro e w7 ⟨rfl, hb7⟩
  have S7 := Lib.hid (S6.out.more hb7)
  clear S6 cq0 cq1 cq2 cq3 dq0 dq1 dq2 dq3 hb7
  obtain ⟨cq0, cq1, cq2, cq3⟩ := (S7.out.box 2 _ _ rfl).fourFi
  go_wp2_with fail
  refine (HHR0.out _ _ (S7.out.nth 3 _ rfl)).mono ?_
  rintro e w8 ⟨rfl, hb8⟩
  have S8 := Lib.hid (S7.out.more hb8)
  clear S7 cq0 cq1 cq2 cq3 hb8
  go_wp2
  go_ret
  exact ⟨rfl, S8.out.below⟩
end Go.Proofs.Ytjcdekonidekcaf
