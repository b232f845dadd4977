/- What this text proves: the contracts of the model's code words: the word of each number, and the number of each word that is nearly one. -/
import Derived.Test.YtdponcannphboabDoorLnkW
import Derived.Test.YtdponcannphboabDoorOnes
import Derived.Deep.LoopGhost
namespace Go.Proofs.YtdponcannphboabDoor
open Go.ChangeShapes Go.WideShapes Go.ChangeAt Go.RowKit
set_option linter.unusedVariables false

set_option maxHeartbeats 4000000 in
theorem word_spec (n : Int) (w : World) :
    Calls Tryd.prog 46 #[.int .i64 n] w fun e w' => e = .returned (.int .i64 (wordV n)) ∧ w = w' := by
  by_cases h : 0 ≤ n ∧ n ≤ 15
  · have Hin := Lib.hid (in_yes n 0 15 h.1 h.2)
    have H := Lib.hid h
    clear h
    go_enter Tryd.func46, Tryd.ntmps46
    go_wp2_with (go_at_call 55; refine (Hin.out _).mono ?_; rintro e w' ⟨rfl, rfl⟩)
    refine (count_spec _ _).mono ?_
    rintro e w1 ⟨rfl, rfl⟩
    go_wp2
    go_ret
    have hn := H.out
    refine ⟨?_, rfl⟩
    obtain rfl | rfl | rfl | rfl | rfl | rfl | rfl | rfl | rfl | rfl | rfl | rfl | rfl | rfl | rfl | rfl : n = 0 ∨ n = 1 ∨ n = 2 ∨ n = 3 ∨ n = 4 ∨ n = 5 ∨ n = 6 ∨ n = 7 ∨ n = 8 ∨ n = 9 ∨ n = 10 ∨ n = 11 ∨ n = 12 ∨ n = 13 ∨ n = 14 ∨ n = 15 := by omega
    all_goals kernel_rfl
  · have Hin := Lib.hid (in_no n 0 15 h)
    have HV := Lib.hid (wordV_out h)
    clear h
    go_enter Tryd.func46, Tryd.ntmps46
    go_wp2_with (go_at_call 55; refine (Hin.out _).mono ?_; rintro e w' ⟨rfl, rfl⟩)
    go_ret
    exact ⟨by rw [HV.out]; rfl, rfl⟩

def retP (p : Int × Int) : Ending := .returned (.tuple #[.int .i64 p.1, .int .i64 p.2])
set_option maxHeartbeats 4000000 in
theorem unword_spec (n : Int) (w : World) :
    Calls Tryd.prog 51 #[.int .i64 n] w fun e w' => e = retP (unwV n) ∧ w = w' := by
  by_cases h : 0 ≤ n ∧ n ≤ 255
  · obtain ⟨x, rfl⟩ := Int.eq_ofNat_of_zero_le h.1
    have hx : x < 256 := by omega
    have Hin := Lib.hid (in_yes (x : Int) 0 255 (by omega) (by omega))
    have HV := Lib.hid (unwV_in x hx)
    clear h
    go_enter Tryd.func51, Tryd.ntmps51
    go_wp2
    go_loopg [4] 16 (fun g s4 wx => ∃ k : Nat, s4 = .int .i64 (k : Int) ∧ k ≤ 16 ∧ g = 16 - k ∧ decN x = decG x k (16 - k) ∧ wx = w)
    case atStart => exact ⟨0, rfl, by omega, rfl, rfl, rfl⟩
    case round =>
      obtain ⟨k, rfl, hk, rfl, hd, rfl⟩ := hrel
      by_cases hlt : k < 16
      · have hd1 : decide ((k : Int) < 16) = true := by simp; omega
        have he := encN_lt k hlt
        have HW := Lib.hid (word_spec (k : Int))
        rw [wordV_in k hlt] at HW
        have hxe := xor_i64 x (encN k) (by omega) (by omega)
        have hy : x ^^^ encN k < 4294967296 := Nat.lt_trans (Nat.xor_lt_two_pow (n := 8) hx he) (by decide)
        have HC := Lib.hid (count_spec ((x ^^^ encN k : Nat) : Int))
        rw [countN_in _ hy, ham_32 x k hx hlt] at HC
        have HD := Lib.hid hd
        have hf : 16 - k = (16 - (k + 1)) + 1 := by omega
        clear hd
        generalize x ^^^ encN k = y at *
        by_cases h2 : ham x k < 2
        · have hd2 : decide ((ham x k : Int) < 2) = true := by simp; omega
          have HG := Lib.hid (decG_yes x k (16 - (k + 1)) h2)
          rw [← hf] at HG
          clear h2 hf
          generalize ham x k = m at *
          go_wp2_with (first | (go_at_call 55; refine (Hin.out _).mono ?_; rintro e w' ⟨rfl, rfl⟩) | (go_at_call 46; refine (HW.out _).mono ?_; rintro e w' ⟨rfl, rfl⟩) | (go_at_call 59; refine (HC.out _).mono ?_; rintro e w' ⟨rfl, rfl⟩))
          go_ret2
          exact ⟨by rw [HV.out, HD.out, HG.out]; rfl, rfl⟩
        · have hd2 : decide ((ham x k : Int) < 2) = false := by simp; omega
          have HG := Lib.hid (decG_no x k (16 - (k + 1)) h2)
          rw [← hf] at HG
          clear h2 hf
          generalize ham x k = m at *
          go_wp2_with (first | (go_at_call 55; refine (Hin.out _).mono ?_; rintro e w' ⟨rfl, rfl⟩) | (go_at_call 46; refine (HW.out _).mono ?_; rintro e w' ⟨rfl, rfl⟩) | (go_at_call 59; refine (HC.out _).mono ?_; rintro e w' ⟨rfl, rfl⟩))
          go_roundg (16 - (k + 1))
          case measure => omega
          case rel => exact ⟨k + 1, by go_num, by omega, rfl, by rw [HD.out, HG.out], rfl⟩
      · obtain rfl : k = 16 := by omega
        have HD := Lib.hid (show decN x = (-1, 2) from hd.trans (decG_zero x 16))
        clear hd
        go_wp2
        go_ret2
        exact ⟨by rw [HV.out, HD.out]; rfl, rfl⟩
  · have Hin := Lib.hid (in_no n 0 255 h)
    have HV := Lib.hid (unwV_out h)
    clear h
    go_enter Tryd.func51, Tryd.ntmps51
    go_wp2
    refine wp_loop_rounds 1 ?_
    rw [rounds_succ]
    go_wp2_with (go_at_call 55; refine (Hin.out _).mono ?_; rintro e w' ⟨rfl, rfl⟩)
    go_ret2
    exact ⟨by rw [HV.out]; rfl, rfl⟩
end Go.Proofs.YtdponcannphboabDoor
