/- What this text proves: the contract of the model's Scramble. -/
import Derived.Test.YtdponcannphboabDoorLnkU
import Derived.Test.YtdponcannphboabDoorBuf
import Derived.Deep.RegionLaw
import Derived.BigRegion
import Derived.Outline
namespace Go.Proofs.YtdponcannphboabDoor
open Go.ChangeShapes Go.WideShapes Go.ChangeAt Go.RowKit
set_option linter.unusedVariables false

set_option maxHeartbeats 4000000 in
theorem scram_spec (s : ByteArray) (hs : s.size ≤ 1048576) (w : World) :
    Calls Tryd.prog 26 #[.string s] w fun e w' => e = .returned (.string (scrT s)) ∧ Below w.heap.size w w' := by
  go_enter Tryd.func26, Tryd.ntmps26
  go_wp2
  go_loopw [3, 4, 5] (fun v x i wr => ∃ k : Nat, k ≤ s.size ∧ i = .int .i64 (k : Int) ∧ x = .int .i64 (seqX k : Nat) ∧ OwnB wr w.heap.size v (scrL s k) ∧ Below w.heap.size w wr) (fun _ _ i _ => s.size - (intOf i).toNat)
  case atStart => exact ⟨0, by omega, rfl, rfl, OwnB.empty w _ (Nat.le_refl _), (Below.refl _ _).alloc (Nat.le_refl _) _⟩
  case round =>
    obtain ⟨k, hk, rfl, rfl, hown, hbel⟩ := hrel
    have hsz := hbel.size
    have hX := seqX_lt k
    by_cases hlt : k < s.size
    · have hd : decide (k < s.size) = true := by simp; omega
      have eb := byteAt_of s k hlt
      have hb := byteAt_lt s k
      have hst := scrL_step s k
      have hnx := Lib.hid (show seqX (k + 1) = nextX (seqX k) from rfl)
      have hxr := xor_b (byteAt s k) (seqX k) hb hX
      have hbv := ofNat_nat (byteAt s k ^^^ seqX k) (scr_lt s k)
      have hl4 : (scrL s k).length + 1 ≤ 1099511627776 := by rw [scrL_len]; omega
      have hwx : IntKind.u8.wrap ((seqX k : Nat) : Int) = ((seqX k : Nat) : Int) := wrapb _ (by omega) (by omega)
      have HST := Lib.hid hst
      clear hst
      generalize byteAt s k ^^^ seqX k = y at *
      generalize seqX k = X at *
      generalize UInt8.ofNat y = yb at *
      go_wp2_with (at_builtin; refine app_bytes wr rfl _ _ rfl w.heap.size u3 (scrL s k) [yb] rfl hown _ _ 1 1 rfl rfl ?c1 ?c2 hsz ?_)
      case c1 => simp [cellB, hbv]
      case c2 => simp; omega
      intro v' w' hown' hbel' hsz'
      go_wp2
      refine ⟨⟨k + 1, by omega, by go_num, ?_, by rw [HST.out]; exact hown', hbel.trans hbel'⟩, by simp [intOf]; omega⟩
      rw [hnx.out]
      exact congrArg (Value.int .i64) (next_walk X hX)
    · have hcv := conv_bytes wr _ _ _ hown
      have hd : decide (k < s.size) = false := by simp; omega
      obtain rfl : k = s.size := by omega
      clear hlt
      go_wp2
      go_ret
      exact ⟨rfl, hbel⟩
end Go.Proofs.YtdponcannphboabDoor
