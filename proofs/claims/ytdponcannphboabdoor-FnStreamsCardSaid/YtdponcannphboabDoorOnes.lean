/- What this text proves: the contracts of the functions of promise 1 that count the bits 1 of a number: for every number from 0 to 4294967295 both return how many there are, for every other one -1. -/
import Derived.Test.YtdponcannphboabDoorRand
import Derived.LoopTactic
import Derived.IntWalk
import Derived.Test.YtdponcannphboabDoorMath
import Derived.Lib.Hide
import Derived.WalkKit
import Derived.ProofKit
import Derived.OpenShut
import Derived.BigQuiet
import Derived.Outline
import Derived.Deep.QuietTactic
namespace Go.Proofs.YtdponcannphboabDoor
open Go.ChangeShapes Go.WideShapes Go.ChangeAt Go.RowKit
set_option linter.unusedVariables false


/-- How many bits 1 a number from 0 to 4294967295 has; -1 for others. -/
def countN (n : Int) : Int := if 0 ≤ n ∧ n ≤ 4294967295 then (ones 32 n.toNat : Int) else -1
theorem countN_in (x : Nat) (h : x < 4294967296) : countN (x : Int) = (ones 32 x : Int) := by
  unfold countN; rw [if_pos (by omega)]; simp
theorem countN_out {n : Int} (h : ¬ (0 ≤ n ∧ n ≤ 4294967295)) : countN n = -1 := by
  unfold countN; rw [if_neg h]

theorem ones_u64 (x : Nat) (hx : x < 4294967296) (w : World) :
    Calls Tryd.prog 60 #[.int .u64 x] w fun e w' => e = .returned (.int .i64 (ones 32 x)) ∧ w = w' := by
  go_enter Tryd.func60, Tryd.ntmps60
  go_wp2
  go_ret
  refine ⟨ret_i ?_, rfl⟩
  have b1 := step1_le x 0x5555555555555555
  have b2 := step2_le (step1 x 0x5555555555555555) 0x3333333333333333
  have hp := pop32 x hx
  rw [walk1 x (by omega)]
  generalize step1 x 0x5555555555555555 = y at *
  rw [walk2 y (by omega)]
  generalize step2 y 0x3333333333333333 = z at *
  rw [walk3 z (by omega)]
  generalize step3 z 0x0f0f0f0f0f0f0f0f = u at *
  obtain ⟨q, r, s, eq, er, es, hs, hm⟩ := fold_bytes _ _ _ _ u (ones_le 8 _) (ones_le 8 _) (ones_le 8 _) (ones_le 8 _) hp
  rw [eq, er, es, IntWalk.wrap64_in _ (by omega), mask7 _ (by omega) (by omega), ones32_bytes x]
  omega

theorem count_impl (n : Int) (w : World) :
    Calls Tryd.prog 47 #[.int .i64 n] w fun e w' => e = .returned (.int .i64 (countN n)) ∧ w = w' := by
  by_cases h : 0 ≤ n ∧ n ≤ 4294967295
  · obtain ⟨x, rfl⟩ := Int.eq_ofNat_of_zero_le h.1
    have hx : x < 4294967296 := by omega
    have hc := Lib.hid (countN_in x hx)
    have hd1 : decide ((x : Int) < 0) = false := by simp
    have hd2 : decide ((4294967295 : Int) < (x : Int)) = false := by simp; omega
    clear h
    go_enter Tryd.func47, Tryd.ntmps47
    go_wp2_with (go_at_call 60; refine (ones_u64 _ hx _).mono ?_; rintro e w' ⟨rfl, rfl⟩)
    go_ret
    exact ⟨ret_i hc.out.symm, rfl⟩
  · have hc := Lib.hid (countN_out h)
    by_cases h0 : n < 0
    · clear h
      go_enter Tryd.func47, Tryd.ntmps47
      go_wp2
      go_ret
      exact ⟨ret_i hc.out.symm, rfl⟩
    · have hd1 : decide (n < 0) = false := by simp; omega
      have hd2 : decide ((4294967295 : Int) < n) = true := by simp; omega
      clear h h0
      go_enter Tryd.func47, Tryd.ntmps47
      go_wp2
      go_ret
      exact ⟨ret_i hc.out.symm, rfl⟩

set_option maxHeartbeats 400000 in
theorem count_spec (n : Int) (w : World) :
    Calls Tryd.prog 59 #[.int .i64 n] w fun e w' => e = .returned (.int .i64 (countN n)) ∧ w = w' := by
  by_cases h : 0 ≤ n ∧ n ≤ 4294967295
  · obtain ⟨x, rfl⟩ := Int.eq_ofNat_of_zero_le h.1
    have hx : x < 4294967296 := by omega
    have hc := Lib.hid (countN_in x hx)
    have h0 : (0 : Int) ≤ (x : Int) := h.1
    have h1 : (x : Int) ≤ 4294967295 := h.2
    clear h
    go_enter Tryd.func59, Tryd.ntmps59
    go_wp2_with (go_at_call 55; refine (in_yes _ _ _ h0 h1 _).mono ?_; rintro e w' ⟨rfl, rfl⟩)
    go_loop [0, 3] (fun m k => ∃ y j : Nat, m = .int .i64 y ∧ k = .int .i64 j ∧ y < 4294967296 ∧ j ≤ 64 ∧ j + ones 32 y = ones 32 x) (fun m _ => (intOf m).toNat)
    case atStart => exact ⟨x, 0, rfl, rfl, hx, by omega, by omega⟩
    case round =>
      obtain ⟨y, j, rfl, rfl, hy, hj, hsum⟩ := hrel
      have H := Lib.hid hsum
      clear hsum
      by_cases hp : 0 < y
      · go_wp2
        have e1 : ones 32 y = y % 2 + ones 31 (y / 2) := rfl
        have e2 : ones 32 (y / 2) = ones 31 (y / 2) := ones_more 31 (y / 2) (by omega) 32 (by omega)
        have e3 := ones_le 32 x
        have hs := H.out
        refine ⟨⟨y / 2, j + y % 2, by rw [show ((y / 2 : Nat) : Int) = (y : Int) / 2 from by omega], ?_, by omega, by omega, by omega⟩, by simp [intOf]; omega⟩
        rw [mask1 _ (by omega) (by omega), IntWalk.wrap64_in _ (by omega), show ((j + y % 2 : Nat) : Int) = (j : Int) + (y : Int) % 2 from by omega]
      · have y0 : y = 0 := by omega
        have hs := H.out
        rw [y0, ones_zero] at hs
        have Hs := Lib.hid hs
        clear hs y0
        go_wp2
        go_ret
        exact ⟨ret_i (by rw [hc.out, ← Hs.out]; rfl), rfl⟩
  · have hc := Lib.hid (countN_out h)
    have H := Lib.hid h
    clear h
    go_enter Tryd.func59, Tryd.ntmps59
    go_wp2_with (go_at_call 55; refine (in_no _ _ _ H.out _).mono ?_; rintro e w' ⟨rfl, rfl⟩)
    go_ret
    exact ⟨ret_i hc.out.symm, rfl⟩

end Go.Proofs.YtdponcannphboabDoor
