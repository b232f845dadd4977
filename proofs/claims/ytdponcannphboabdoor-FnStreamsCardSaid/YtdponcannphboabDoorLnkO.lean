/- What this text proves: the contracts of the program's EncodeNibble and DecodeNibble. -/
import Derived.Test.YtdponcannphboabDoorLnkC
namespace Go.Proofs.YtdponcannphboabDoor
open Go.ChangeShapes Go.WideShapes Go.ChangeAt Go.RowKit
set_option linter.unusedVariables false

theorem wrd_at (n : Nat) (hn : n < 16) (W : World) : (Instr.index 73 (.agg wrdA) (.int .i64 (n : Int))).run Tryd.prog W = .ok (.int .i64 (encN n : Int)) W := by
  obtain rfl | rfl | rfl | rfl | rfl | rfl | rfl | rfl | rfl | rfl | rfl | rfl | rfl | rfl | rfl | rfl : n = 0 ∨ n = 1 ∨ n = 2 ∨ n = 3 ∨ n = 4 ∨ n = 5 ∨ n = 6 ∨ n = 7 ∨ n = 8 ∨ n = 9 ∨ n = 10 ∨ n = 11 ∨ n = 12 ∨ n = 13 ∨ n = 14 ∨ n = 15 := by omega
  all_goals rfl

set_option maxHeartbeats 4000000 in
theorem word_impl (n : Int) (w : World) (ht : BitW w) :
    Calls Tryd.prog 50 #[.int .i64 n] w fun e w' => e = .returned (.int .i64 (wordV n)) ∧ Below w.heap.size w w' := by
  have HT := Lib.hid (words_impl w ht)
  clear ht
  by_cases h : 0 ≤ n ∧ n ≤ 15
  · obtain ⟨x, rfl⟩ := Int.eq_ofNat_of_zero_le h.1
    have hx : x < 16 := by omega
    have h0 : decide ((x : Int) < 0) = false := by simp
    have h1 : decide ((15 : Int) < (x : Int)) = false := by simp; omega
    have HV := Lib.hid (wordV_in x hx)
    have hix := wrd_at x hx
    generalize wrdA = A at *
    go_enter Tryd.func50, Tryd.ntmps50
    go_wp2_with fail
    refine HT.out.mono ?_
    rintro e w1 ⟨rfl, hb1⟩
    go_wp2
    go_ret
    exact ⟨by rw [HV.out]; rfl, hb1⟩
  · have HV := Lib.hid (wordV_out h)
    by_cases h0 : n < 0
    · have h0' : decide (n < 0) = true := by simpa using h0
      clear h0 h
      go_enter Tryd.func50, Tryd.ntmps50
      go_wp2
      go_ret
      exact ⟨by rw [HV.out]; rfl, Below.refl _ _⟩
    · have h0' : decide (n < 0) = false := by simpa using h0
      have h1' : decide (15 < n) = true := by simp; omega
      clear h0 h
      go_enter Tryd.func50, Tryd.ntmps50
      go_wp2
      go_ret
      exact ⟨by rw [HV.out]; rfl, Below.refl _ _⟩

theorem ham_two (x n : Nat) (hx : x < 256) (hn : n < 16) : ones 32 (x ^^^ encN n) = ham x n := ham_32 x n hx hn

set_option maxHeartbeats 4000000 in
theorem unword_impl (n : Int) (w : World) (ht : BitW w) :
    Calls Tryd.prog 52 #[.int .i64 n] w fun e w' => e = retP (unwV n) ∧ Below w.heap.size w w' := by
  have HT := Lib.hid (words_impl w ht)
  clear ht
  by_cases h : 0 ≤ n ∧ n ≤ 255
  · obtain ⟨x, rfl⟩ := Int.eq_ofNat_of_zero_le h.1
    have hx : x < 256 := by omega
    have h0 : decide ((x : Int) < 0) = false := by simp
    have h1 : decide ((255 : Int) < (x : Int)) = false := by simp; omega
    have HV := Lib.hid (unwV_in x hx)
    have hixA := Lib.hid wrd_at
    generalize wrdA = A at *
    clear h
    go_enter Tryd.func52, Tryd.ntmps52
    go_wp2_with fail
    refine HT.out.mono ?_
    rintro e w1 ⟨rfl, hb1⟩
    go_wp2
    go_loopg [14] 16 (fun g s14 wx => ∃ k : Nat, s14 = .int .i64 (k : Int) ∧ k ≤ 16 ∧ g = 16 - k ∧ decN x = decG x k (16 - k) ∧ wx = w1)
    case atStart => exact ⟨0, rfl, by omega, rfl, rfl, rfl⟩
    case round =>
      obtain ⟨k, rfl, hk, rfl, hd, rfl⟩ := hrel
      by_cases hlt : k < 16
      · have hd1 : decide ((k : Int) < 16) = true := by simp; omega
        have he := encN_lt k hlt
        have hix := hixA.out k hlt
        have hxe := xor_i64 x (encN k) (by omega) (by omega)
        have hy : x ^^^ encN k < 4294967296 := Nat.lt_trans (Nat.xor_lt_two_pow (n := 8) hx he) (by decide)
        have HC := Lib.hid (count_impl ((x ^^^ encN k : Nat) : Int))
        rw [countN_in _ hy, ham_32 x k hx hlt] at HC
        have HD := Lib.hid hd
        have hf : 16 - k = (16 - (k + 1)) + 1 := by omega
        clear hd
        generalize x ^^^ encN k = y at *
        generalize encN k = E at *
        by_cases h2 : ham x k < 2
        · have hd2 : decide ((ham x k : Int) ≤ 1) = true := by simp; omega
          have HG := Lib.hid (decG_yes x k (16 - (k + 1)) h2)
          rw [← hf] at HG
          clear h2 hf
          generalize ham x k = m at *
          go_wp2_with (go_at_call 47; refine (HC.out _).mono ?_; rintro e w' ⟨rfl, rfl⟩)
          go_ret2
          exact ⟨by rw [HV.out, HD.out, HG.out]; rfl, hb1⟩
        · have hd2 : decide ((ham x k : Int) ≤ 1) = false := by simp; omega
          have HG := Lib.hid (decG_no x k (16 - (k + 1)) h2)
          rw [← hf] at HG
          clear h2 hf
          generalize ham x k = m at *
          go_wp2_with (go_at_call 47; refine (HC.out _).mono ?_; rintro e w' ⟨rfl, rfl⟩)
          go_roundg (16 - (k + 1))
          case measure => omega
          case rel => exact ⟨k + 1, by go_num, by omega, rfl, by rw [HD.out, HG.out], rfl⟩
      · obtain rfl : k = 16 := by omega
        have HD := Lib.hid (show decN x = (-1, 2) from hd.trans (decG_zero x 16))
        clear hd
        go_wp2
        go_ret2
        exact ⟨by rw [HV.out, HD.out]; rfl, hb1⟩
  · have HV := Lib.hid (unwV_out h)
    by_cases h0 : n < 0
    · have h0' : decide (n < 0) = true := by simpa using h0
      clear h0 h
      go_enter Tryd.func52, Tryd.ntmps52
      go_wp2
      go_ret2
      exact ⟨by rw [HV.out]; rfl, Below.refl _ _⟩
    · have h0' : decide (n < 0) = false := by simpa using h0
      have h1' : decide (255 < n) = true := by simp; omega
      clear h0 h
      go_enter Tryd.func52, Tryd.ntmps52
      go_wp2
      go_ret2
      exact ⟨by rw [HV.out]; rfl, Below.refl _ _⟩
end Go.Proofs.YtdponcannphboabDoor
