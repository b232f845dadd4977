/- What this text proves: the contracts of the functions of promise 1 that make random numbers, over the seat's translation: each returns, for every argument, the number that the document names, and leaves memory as it was. -/
import Derived.Test.YtdponcannphboabDoorLaw
import Derived.Test.YtdponcannphboabDoorMath
import Derived.Lib.Hide
import Derived.WalkKit
import Derived.ProofKit
import Derived.OpenShut
import Derived.BigQuiet
import Derived.Outline
import Derived.Deep.QuietTactic
namespace Go.Proofs.YtdponcannphboabDoor
open Go.ChangeShapes Go.WideShapes Go.ChangeAt Go.RowKit
set_option linter.unusedVariables false

/-- The next state. -/
def nextR (s : Int) : Int := if 0 ≤ s ∧ s ≤ 65535 then (s * 25173 + 13849) % 65536 else 0

theorem nextR_in {s : Int} (h : 0 ≤ s ∧ s ≤ 65535) : nextR s = (s * 25173 + 13849) % 65536 := if_pos h
theorem nextR_out {s : Int} (h : ¬ (0 ≤ s ∧ s ≤ 65535)) : nextR s = 0 := if_neg h
theorem nextR_lo (s : Int) : 0 ≤ nextR s := by unfold nextR; split <;> omega
theorem nextR_hi (s : Int) : nextR s ≤ 65535 := by unfold nextR; split <;> omega

theorem in_yes (a b c : Int) (h1 : b ≤ a) (h2 : a ≤ c) (w : World) :
    Calls Tryd.prog 55 #[.int .i64 a, .int .i64 b, .int .i64 c] w fun e w' => e = .returned (.bool true) ∧ w = w' := by
  go_enter Tryd.func55, Tryd.ntmps55
  go_wp2
  go_ret
  exact ⟨rfl, rfl⟩
theorem in_low (a b c : Int) (h1 : a < b) (w : World) :
    Calls Tryd.prog 55 #[.int .i64 a, .int .i64 b, .int .i64 c] w fun e w' => e = .returned (.bool false) ∧ w = w' := by
  go_enter Tryd.func55, Tryd.ntmps55
  go_wp2
  go_ret
  exact ⟨rfl, rfl⟩
theorem in_high (a b c : Int) (h0 : b ≤ a) (h1 : c < a) (w : World) :
    Calls Tryd.prog 55 #[.int .i64 a, .int .i64 b, .int .i64 c] w fun e w' => e = .returned (.bool false) ∧ w = w' := by
  have hd : decide (a ≤ c) = false := by simp; omega
  go_enter Tryd.func55, Tryd.ntmps55
  go_wp2
  go_ret
  exact ⟨rfl, rfl⟩
theorem in_no (a b c : Int) (h : ¬ (b ≤ a ∧ a ≤ c)) (w : World) :
    Calls Tryd.prog 55 #[.int .i64 a, .int .i64 b, .int .i64 c] w fun e w' => e = .returned (.bool false) ∧ w = w' := by
  by_cases h1 : b ≤ a
  · exact in_high a b c h1 (by omega) w
  · exact in_low a b c (by omega) w

theorem seed_yes (a : Int) (h1 : 0 ≤ a) (h2 : a ≤ 65535) (w : World) :
    Calls Tryd.prog 39 #[.int .i64 a] w fun e w' => e = .returned (.bool true) ∧ w = w' := by
  go_enter Tryd.func39, Tryd.ntmps39
  go_wp2
  go_ret
  exact ⟨rfl, rfl⟩
theorem seed_no (a : Int) (h : ¬ (0 ≤ a ∧ a ≤ 65535)) (w : World) :
    Calls Tryd.prog 39 #[.int .i64 a] w fun e w' => e = .returned (.bool false) ∧ w = w' := by
  by_cases h1 : 0 ≤ a
  · have h2 : decide (a ≤ 65535) = false := by simp; omega
    clear h
    go_enter Tryd.func39, Tryd.ntmps39
    go_wp2
    go_ret
    exact ⟨rfl, rfl⟩
  · have h2 : a < 0 := by omega
    clear h h1
    go_enter Tryd.func39, Tryd.ntmps39
    go_wp2
    go_ret
    exact ⟨rfl, rfl⟩

theorem ret_i {k : IntKind} {a b : Int} (h : a = b) : Ending.returned (.int k a) = .returned (.int k b) := by rw [h]

theorem next_impl (a : Int) (w : World) :
    Calls Tryd.prog 54 #[.int .i64 a] w fun e w' => e = .returned (.int .i64 (nextR a)) ∧ w = w' := by
  by_cases h : 0 ≤ a ∧ a ≤ 65535
  · obtain ⟨h1, h2⟩ := h
    go_enter Tryd.func54, Tryd.ntmps54
    go_wp2_with (go_at_call 39; refine (seed_yes _ h1 h2 _).mono ?_; rintro e w' ⟨rfl, rfl⟩)
    go_ret
    exact ⟨ret_i (by rw [nextR_in ⟨h1, h2⟩]), rfl⟩
  · have H := Lib.hid h
    clear h
    go_enter Tryd.func54, Tryd.ntmps54
    go_wp2_with (go_at_call 39; refine (seed_no _ H.out _).mono ?_; rintro e w' ⟨rfl, rfl⟩)
    go_ret
    exact ⟨ret_i (by rw [nextR_out H.out]), rfl⟩

/-- The number below the bound. -/
def belowR (s n : Int) : Int × Int := if 0 ≤ s ∧ s ≤ 65535 ∧ 1 ≤ n ∧ n ≤ 4096 then (nextR s, nextR s / 16 % n) else (0, 0)
def retR (p : Int × Int) : Ending := .returned (.tuple #[.int .i64 p.1, .int .i64 p.2])

theorem below_impl (s n : Int) (w : World) :
    Calls Tryd.prog 40 #[.int .i64 s, .int .i64 n] w fun e w' => e = retR (belowR s n) ∧ ∃ k, w' = w.drewN k := by
  by_cases h : 0 ≤ s ∧ s ≤ 65535
  · by_cases hn : 1 ≤ n ∧ n ≤ 4096
    · obtain ⟨h1, h2⟩ := h
      obtain ⟨h3, h4⟩ := hn
      have lo := nextR_lo s
      have hi := nextR_hi s
      have hd1 : decide (n < 1) = false := by simp; omega
      have hd2 : decide (4096 < n) = false := by simp; omega
      have hne : n ≠ 0 := by omega
      go_enter Tryd.func40, Tryd.ntmps40
      go_wp2_with (first | (go_at_call 39; refine (seed_yes _ h1 h2 _).mono ?_; rintro e w' ⟨rfl, rfl⟩) | (go_at_call 54; refine (next_impl _ _).mono ?_; rintro e w' ⟨rfl, rfl⟩))
      go_quiet (fail)
      go_wp2
      go_ret2
      exact ⟨by unfold belowR; rw [if_pos ⟨h1, h2, h3, h4⟩]; rfl, nq, rfl⟩
    · obtain ⟨h1, h2⟩ := h
      have H := Lib.hid hn
      by_cases h3 : 1 ≤ n
      · have hd1 : decide (n < 1) = false := by simp; omega
        have hd2 : decide (4096 < n) = true := by simp; omega
        clear hn
        go_enter Tryd.func40, Tryd.ntmps40
        go_wp2_with (go_at_call 39; refine (seed_yes _ h1 h2 _).mono ?_; rintro e w' ⟨rfl, rfl⟩)
        go_ret2
        exact ⟨by unfold belowR; rw [if_neg (fun k => H.out k.2.2)]; rfl, 0, rfl⟩
      · have hd1 : decide (n < 1) = true := by simp; omega
        clear hn
        go_enter Tryd.func40, Tryd.ntmps40
        go_wp2_with (go_at_call 39; refine (seed_yes _ h1 h2 _).mono ?_; rintro e w' ⟨rfl, rfl⟩)
        go_ret2
        exact ⟨by unfold belowR; rw [if_neg (fun k => H.out k.2.2)]; rfl, 0, rfl⟩
  · have H := Lib.hid h
    clear h
    go_enter Tryd.func40, Tryd.ntmps40
    go_wp2_with (go_at_call 39; refine (seed_no _ H.out _).mono ?_; rintro e w' ⟨rfl, rfl⟩)
    go_ret2
    exact ⟨by unfold belowR; rw [if_neg (fun k => H.out ⟨k.1, k.2.1⟩)]; rfl, 0, rfl⟩

end Go.Proofs.YtdponcannphboabDoor
