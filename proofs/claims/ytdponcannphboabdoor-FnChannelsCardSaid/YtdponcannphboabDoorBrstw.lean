/- What this text proves: the contracts of BurstText: program and model both return, for every seed and text, the next seed and the text some bits of which are changed. -/
import Derived.Test.YtdponcannphboabDoorBrst
import Derived.Test.YtdponcannphboabDoorCbuf
import Derived.Test.YtdponcannphboabDoorEmp
import Derived.Deep.LoopGhost
import Derived.RegionTactic
import Derived.BigRegion
import Derived.BigQuiet
import Derived.Deep.QuietTactic
import Derived.Outline
namespace Go.Proofs.YtdponcannphboabDoor
open Go.ChangeShapes Go.WideShapes Go.ChangeAt Go.RowKit
set_option linter.unusedVariables false

theorem flip_lt (F r : Nat) (hF : F < 256) (hr : r < 8) : F ^^^ 2 ^ r < 256 :=
  Nat.xor_lt_two_pow (n := 8) hF (Nat.lt_of_le_of_lt (Nat.pow_le_pow_right (by decide) (show r ≤ 7 by omega)) (by decide))
theorem flip_bit (F r : Nat) (hF : F < 256) (hr : r < 8) : bits .xor .u8 (F : Int) ((2 : Int) ^ r % 256) = ((F ^^^ 2 ^ r : Nat) : Int) := by
  have h2 : (2 : Nat) ^ r ≤ 128 := Nat.le_trans (Nat.pow_le_pow_right (by decide) (show r ≤ 7 by omega)) (by decide)
  rw [show ((2 : Int) ^ r % 256) = ((2 ^ r : Nat) : Int) by
    rw [show ((2 : Int) ^ r) = ((2 ^ r : Nat) : Int) by push_cast; rfl]
    generalize 2 ^ r = c at *
    omega]
  exact xor_b F _ hF (by omega)

set_option maxHeartbeats 4000000 in
theorem burst_impl (c : Int) (s : ByteArray) (hs : s.size ≤ 1048576) (w : World) :
    Calls Tryd.prog 15 #[.int .i64 c, .string s] w fun e w' => e = retZ (burstV c s) ∧ Below w.heap.size w w' := by
  by_cases hc : 0 ≤ c ∧ c ≤ 65535
  · by_cases h1 : 1 ≤ s.size
    · by_cases h4 : s.size ≤ 400
      · obtain ⟨x, y, a, k, e1, e2, x0, x1, ha, hk, HV0⟩ := burstV_in c s ⟨hc.1, hc.2, h1, h4⟩
        have HV := Lib.hid HV0
        have d1 := text_full s (by omega)
        have d2 : decide ((400 : Int) < (s.size : Int)) = false := by simp; omega
        obtain ⟨cap, w1, hnew⟩ := conv_new s
        have hconv := fun W => (hnew W).1
        have r1 := below_impl c (7 * (s.size : Int) + 1)
        have r2 := below_impl x (s.size : Int)
        rw [e1] at r1
        rw [e2] at r2
        have R1 := Lib.hid (fun W => (r1 W).mono fun e w' h => (⟨h.1, by obtain ⟨n, hn⟩ := h.2; rw [hn]; exact below_draws (Below.refl _ _) n⟩ : e = retR (x, (a : Int)) ∧ Below W.heap.size W w'))
        have R2 := Lib.hid (fun W => (r2 W).mono fun e w' h => (⟨h.1, by obtain ⟨n, hn⟩ := h.2; rw [hn]; exact below_draws (Below.refl _ _) n⟩ : e = retR (y, (k : Int)) ∧ Below W.heap.size W w'))
        simp only [retR] at R1 R2
        clear r1 r2 e1 e2 HV0
        go_enter Tryd.func15, Tryd.ntmps15
        go_wp2_with (go_at_call 39; refine (seed_yes c hc.1 hc.2 _).mono ?_; rintro e w' ⟨rfl, rfl⟩)
        refine (R1.out _).mono ?_
        rintro e w2 ⟨rfl, hb1⟩
        have B1 := Lib.hid hb1
        clear hb1
        go_wp2_with fail
        refine (R2.out _).mono ?_
        rintro e w3 ⟨rfl, hb2⟩
        have B2 := Lib.hid (B1.out.trans (hb2.mono B1.out.size))
        have H0 := Lib.hid (hnew w3).2
        have hz3 := Lib.hid B2.out.size
        clear hb2 hnew
        go_wp2
        clear hconv
        go_loopg [10] (k + 1) (fun g s10 wx => ∃ P : Nat, a ≤ P ∧ P ≤ a + k + 1 ∧ g = a + k + 1 - P ∧ s10 = .int .i64 (P : Int) ∧ RowC wx w3.heap.size (hitL s a P) ∧ Below w.heap.size w wx)
        case atStart => exact ⟨a, by omega, by omega, by omega, rfl, H0.out.2.same (hitL_none s a), B2.out.trans (H0.out.1.mono hz3.out)⟩
        case round =>
          obtain ⟨P, hP1, hP2, rfl, rfl, hrow, hbel⟩ := hrel
          have HB := Lib.hid hbel
          have HR := Lib.hid hrow
          by_cases hlt : P ≤ a + k
          · have hd : decide (P ≤ a + k) = true := by simp; omega
            have hj : P / 8 < s.size := by omega
            have hcl : wr.cell? ⟨w3.heap.size, P / 8, none⟩ = some (.int .u8 ((hitB s a P (P / 8) : Nat) : Int)) := by
              rw [hrow.cell (P / 8) (by rw [hitL_len]; exact hj)]
              unfold cellB
              rw [hitL_at]
            have hf := hrow.frozen (P / 8) (by rw [hitL_len]; exact hj)
            have hF := hitB_lt s a P (P / 8)
            have hst := hrow.store (P / 8) (UInt8.ofNat (hitB s a P (P / 8) ^^^ 2 ^ (P % 8)))
            rw [hitL_step s a P hP1, ofNat_nat _ (flip_lt _ _ hF (by omega))] at hst
            have hfb := flip_bit _ (P % 8) hF (by omega)
            have HST := Lib.hid hst
            have HFB := Lib.hid hfb
            clear hrow hbel hst hfb
            generalize hitB s a P (P / 8) = F at *
            go_wp2
            go_region
            go_wp2
            go_roundg (a + k + 1 - (P + 1))
            case measure => omega
            case rel =>
              refine ⟨P + 1, by omega, by omega, rfl, by go_num, ?_, (HB.out.setCell (p := ⟨w3.heap.size, P / 8, none⟩) hz3.out _).drew⟩
              have h := HST.out
              rw [← HFB.out] at h
              exact h.drew
          · obtain rfl : P = a + k + 1 := by omega
            have hd : decide (a + k + 1 ≤ a + k) = false := by simp
            have hcv := hrow.drew.conv (cap := cap w3) (hitL_len s a (a + k + 1))
            rw [hitL_flip] at hcv
            clear hrow hbel
            go_wp2
            go_region
            go_wp2
            go_ret2
            exact ⟨by rw [HV.out]; rfl, HB.out.drew⟩
      · have HV := Lib.hid (burstV_out c s (by omega))
        have d1 := text_full s (by omega)
        have d2 : decide ((400 : Int) < (s.size : Int)) = true := by simp; omega
        go_enter Tryd.func15, Tryd.ntmps15
        go_wp2_with (go_at_call 39; refine (seed_yes c hc.1 hc.2 _).mono ?_; rintro e w' ⟨rfl, rfl⟩)
        go_ret2
        exact ⟨by rw [HV.out]; rfl, Below.refl _ _⟩
    · have HV := Lib.hid (burstV_out c s (by omega))
      have d1 := text_none s (by omega)
      have d2 : decide ((400 : Int) < (s.size : Int)) = false := by simp; omega
      go_enter Tryd.func15, Tryd.ntmps15
      go_wp2_with (go_at_call 39; refine (seed_yes c hc.1 hc.2 _).mono ?_; rintro e w' ⟨rfl, rfl⟩)
      go_ret2
      exact ⟨by rw [HV.out]; rfl, Below.refl _ _⟩
  · have HV := Lib.hid (burstV_out c s (by intro h; exact hc ⟨h.1, h.2.1⟩))
    go_enter Tryd.func15, Tryd.ntmps15
    go_wp2_with (go_at_call 39; refine (seed_no c hc _).mono ?_; rintro e w' ⟨rfl, rfl⟩)
    go_ret2
    exact ⟨by rw [HV.out]; rfl, Below.refl _ _⟩

end Go.Proofs.YtdponcannphboabDoor
