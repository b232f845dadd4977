/- What this text proves: the law that random numbers are below their bound, and that their states follow one another, returns true for every bytes that it draws from. -/
import Derived.Test.YtkgpjfemlgocoabRand
import Derived.Test.YtkgpjfemlgocoabCode
namespace Go.Proofs.Ytkgpjfemlgocoab
open Go.ChangeShapes Go.WideShapes Go.ChangeAt Go.RowKit
set_option linter.unusedVariables false

theorem below_ok (s n : Int) (h0 : 0 ≤ s) (h1 : s ≤ 65535) (hn0 : 1 ≤ n) (hn1 : n ≤ 4096) (w : World) :
    Calls Try.prog 16 #[.int .i64 s, .int .i64 n] w fun e w' => e = .returned (.tuple #[.int .i64 (nextR s), .int .i64 (nextR s / 16 % n)]) ∧ ∃ k, w' = w.drewN k := by
  refine (below_impl s n w).mono fun e w' h => ⟨?_, h.2⟩
  rw [h.1]
  unfold belowR
  rw [if_pos ⟨h0, h1, hn0, hn1⟩]
  rfl

set_option maxHeartbeats 1000000 in
theorem law_randoms (A : Option Addr) (n c : Nat) (hm : n ≤ maxLen) (w : World) (hc : CodeOk w w.heap.size A n) :
    Calls Try.prog 12 #[.slice A n c] w fun e w' => e = .returned (.bool true) ∧ Below w.heap.size w w' := by
  by_cases hbig : 1048576 < n
  · go_enter Try.func12, Try.ntmps12
    go_wp2_with (go_at_call 29; refine (big_yes _ _ _ hbig hm _).mono ?_; rintro e w' ⟨rfl, rfl⟩)
    go_ret
    exact ⟨rfl, Below.refl _ _⟩
  · have hn : n ≤ 1048576 := by omega
    have Ha := Lib.hid (fun i hi => at_any w.heap.size A n c hn i hi w hc)
    clear hc hbig
    go_enter Try.func12, Try.ntmps12
    go_wp2_with (go_at_call 29; refine (big_no _ _ _ hn _).mono ?_; rintro e w' ⟨rfl, rfl⟩)
    refine (Ha.out 0 (by omega)).mono ?_
    rintro e w' ⟨x0, hx0, rfl, rfl⟩
    go_wp2_with fail
    refine (Ha.out 1 (by omega)).mono ?_
    rintro e w' ⟨x1, hx1, rfl, rfl⟩
    go_wp2_with fail
    refine (Ha.out 2 (by omega)).mono ?_
    rintro e w' ⟨x2, hx2, rfl, rfl⟩
    go_wp2_with fail
    refine (Ha.out 3 (by omega)).mono ?_
    rintro e w' ⟨x3, hx3, rfl, rfl⟩
    have hmul : (0 : Int) ≤ (x2 : Int) * (x3 : Int) := Int.mul_nonneg (by omega) (by omega)
    have hmul2 : (x2 : Int) * (x3 : Int) ≤ 255 * 255 := Int.mul_le_mul (by omega) (by omega) (by omega) (by omega)
    go_wp2
    have hN1 : (1 : Int) ≤ 1 + (x2 : Int) * (x3 : Int) % 4096 := by omega
    have hN2 : 1 + (x2 : Int) * (x3 : Int) % 4096 ≤ 4096 := by omega
    have hS1 : (0 : Int) ≤ (x0 : Int) * 256 + (x1 : Int) := by omega
    have hS2 : (x0 : Int) * 256 + (x1 : Int) ≤ 65535 := by omega
    clear hmul hmul2
    generalize 1 + (x2 : Int) * (x3 : Int) % 4096 = N at *
    generalize (x0 : Int) * 256 + (x1 : Int) = S at *
    go_loopw [3, 5] (fun s k wr => ∃ (T : Int) (K : Nat), s = .int .i64 T ∧ k = .int .i64 K ∧ 0 ≤ T ∧ T ≤ 65535 ∧ K ≤ 12 ∧ ∃ d, wr = w.drewN d) (fun _ k _ => 12 - (intOf k).toNat)
    case atStart => exact ⟨S, 0, rfl, rfl, hS1, hS2, by omega, 0, rfl⟩
    case round =>
      obtain ⟨T, K, rfl, rfl, hT1, hT2, hK, d, rfl⟩ := hrel
      by_cases hlt : K < 12
      · have hd : decide ((K : Int) < 12) = true := by simp; omega
        have lo := nextR_lo T
        have hi := nextR_hi T
        have r0 : (0 : Int) ≤ nextR T / 16 % N := Int.emod_nonneg _ (by omega)
        have r1 : nextR T / 16 % N < N := Int.emod_lt_of_pos _ (by omega)
        have hb := Lib.hid (below_ok T N hT1 hT2 hN1 hN2)
        generalize nextR T / 16 % N = R at *
        have t1 : decide (R < 0) = false := by simp; omega
        have t2 : decide (N ≤ R) = false := by simp; omega
        have t3 : decide (nextR T < 0) = false := by simp; omega
        have t4 : decide (65535 < nextR T) = false := by simp; omega
        go_wp2_with fail
        refine (hb.out _).mono ?_
        rintro e w' ⟨rfl, k2, rfl⟩
        go_wp2_with fail
        refine (next_spec _ _).mono ?_
        rintro e w' ⟨rfl, rfl⟩
        go_wp2_with fail
        refine (next_impl _ _).mono ?_
        rintro e w' ⟨rfl, rfl⟩
        go_wp2
        exact ⟨⟨nextR T, K + 1, rfl, by go_num, lo, hi, by omega, _, rfl⟩, by simp [intOf]; omega⟩
      · have hd : decide ((K : Int) < 12) = false := by simp; omega
        clear hlt
        go_wp2
        go_ret
        exact ⟨rfl, below_draws (Below.refl _ _) _⟩
end Go.Proofs.Ytkgpjfemlgocoab
