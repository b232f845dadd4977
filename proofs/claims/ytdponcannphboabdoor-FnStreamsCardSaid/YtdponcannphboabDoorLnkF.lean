/- What this text proves: the contracts of the model's EncodeBlock, DecodeBlock and Scramble. -/
import Derived.Test.YtdponcannphboabDoorLnkE
import Derived.Test.YtdponcannphboabDoorLnkS
import Derived.Test.YtdponcannphboabDoorBuf
import Derived.Deep.RegionLaw
import Derived.BigRegion
import Derived.Outline
namespace Go.Proofs.YtdponcannphboabDoor
open Go.ChangeShapes Go.WideShapes Go.ChangeAt Go.RowKit
set_option linter.unusedVariables false

def encS (s : ByteArray) : ByteArray := if s.size ≤ 200 then encT s else ⟨#[]⟩
theorem encT_list (s : ByteArray) : encT s = ⟨((List.range (2 * s.size)).map fun i => UInt8.ofNat (encN (nib s i))).toArray⟩ := rfl
def encL (s : ByteArray) (k : Nat) : List UInt8 := (List.range (2 * k)).map fun i => UInt8.ofNat (encN (nib s i))
theorem encL_step (s : ByteArray) (k : Nat) : encL s (k + 1) = encL s k ++ [UInt8.ofNat (encN (byteAt s k / 16)), UInt8.ofNat (encN (byteAt s k % 16))] := by
  unfold encL
  rw [show 2 * (k + 1) = 2 * k + 1 + 1 from by omega, List.range_succ, List.range_succ, List.map_append, List.map_append, List.append_assoc]
  rw [← nib_hi, ← nib_lo]
  rfl
theorem encL_len (s : ByteArray) (k : Nat) : (encL s k).length = 2 * k := by simp [encL]
theorem encL_all (s : ByteArray) : (⟨(encL s s.size).toArray⟩ : ByteArray) = encT s := rfl

set_option maxHeartbeats 4000000 in
theorem block_spec (s : ByteArray) (hs : s.size ≤ 1048576) (w : World) :
    Calls Tryd.prog 28 #[.string s] w fun e w' => e = .returned (.string (encS s)) ∧ Below w.heap.size w w' := by
  by_cases hbig : 200 < s.size
  · have HV := Lib.hid (show encS s = ⟨#[]⟩ by unfold encS; rw [if_neg (by omega)])
    have d : decide ((200 : Int) < (s.size : Int)) = true := by simp; omega
    go_enter Tryd.func28, Tryd.ntmps28
    go_wp2
    go_ret
    exact ⟨by rw [HV.out]; rfl, Below.refl _ _⟩
  · have d : decide ((200 : Int) < (s.size : Int)) = false := by simp; omega
    have HV := Lib.hid (show encS s = ⟨(encL s s.size).toArray⟩ by unfold encS; rw [if_pos (by omega)]; rfl)
    have hs6 : s.size ≤ 200 := by omega
    clear hbig
    go_enter Tryd.func28, Tryd.ntmps28
    go_wp2
    go_loopw [3, 4] (fun v i wr => ∃ k : Nat, k ≤ s.size ∧ i = .int .i64 (k : Int) ∧ OwnB wr w.heap.size v (encL s k) ∧ Below w.heap.size w wr) (fun _ i _ => s.size - (intOf i).toNat)
    case atStart => exact ⟨0, by omega, rfl, OwnB.empty w _ (Nat.le_refl _), (Below.refl _ _).alloc (Nat.le_refl _) _⟩
    case round =>
      obtain ⟨k, hk, rfl, hown, hbel⟩ := hrel
      have hsz := hbel.size
      by_cases hlt : k < s.size
      · have hd : decide (k < s.size) = true := by simp; omega
        have hb := UInt8.toNat_lt (s[k]'hlt)
        have eb := byteAt_of s k hlt
        obtain ⟨E1, b1, hE1, hb1, hw5⟩ : ∃ (E1 : Nat) (b1 : UInt8), encN (byteAt s k / 16) = E1 ∧ UInt8.ofNat (encN (byteAt s k / 16)) = b1 ∧ IntKind.u8.wrap (E1 : Int) = (b1.toNat : Int) := ⟨_, _, rfl, rfl, by
          have := encN_lt (byteAt s k / 16) (by omega)
          rw [UInt8.toNat_ofNat', IntKind.wrap_u8]
          omega⟩
        obtain ⟨E2, b2, hE2, hb2, hw6⟩ : ∃ (E2 : Nat) (b2 : UInt8), encN (byteAt s k % 16) = E2 ∧ UInt8.ofNat (encN (byteAt s k % 16)) = b2 ∧ IntKind.u8.wrap (E2 : Int) = (b2.toNat : Int) := ⟨_, _, rfl, rfl, by
          have := encN_lt (byteAt s k % 16) (by omega)
          rw [UInt8.toNat_ofNat', IntKind.wrap_u8]
          omega⟩
        have c1 : ∀ W : World, Calls Tryd.prog 46 #[.int .i64 ((s[k].toNat : Int) / 16)] W fun e w' => e = .returned (.int .i64 (E1 : Int)) ∧ W = w' := fun W => by
          have h := word_spec ((byteAt s k / 16 : Nat) : Int) W
          rw [wordV_in _ (by omega), hE1, show ((byteAt s k / 16 : Nat) : Int) = (s[k].toNat : Int) / 16 from by omega] at h
          exact h
        have c2 : ∀ W : World, Calls Tryd.prog 46 #[.int .i64 ((s[k].toNat : Int) % 16)] W fun e w' => e = .returned (.int .i64 (E2 : Int)) ∧ W = w' := fun W => by
          have h := word_spec ((byteAt s k % 16 : Nat) : Int) W
          rw [wordV_in _ (by omega), hE2, show ((byteAt s k % 16 : Nat) : Int) = (s[k].toNat : Int) % 16 from by omega] at h
          exact h
        have C1 := Lib.hid c1
        have C2 := Lib.hid c2
        have hst := encL_step s k
        rw [hb1, hb2] at hst
        have HST := Lib.hid hst
        have hl4 : (encL s k).length + 2 ≤ 1099511627776 := by rw [encL_len]; omega
        have hw1 : IntKind.i64.wrap (s[k].toNat : Int) = (s[k].toNat : Int) := IntWalk.i64_in _ (by omega)
        have hw2 : IntKind.i64.wrap ((s[k].toNat : Int) / 16) = (s[k].toNat : Int) / 16 := IntWalk.i64_in _ (by omega)
        have hw3 : IntKind.i64.wrap ((s[k].toNat : Int) % 16) = (s[k].toNat : Int) % 16 := IntWalk.i64_in _ (by omega)
        have hx3 : bits .and .u8 (s[k].toNat : Int) 15 = (s[k].toNat : Int) % 16 := bits_mask .u8 8 (by decide) wraps_u8 4 (by decide) _ (by omega) (by omega)
        clear c1 c2 hst hE1 hE2 hb1 hb2 eb
        go_wp2
        go_region_law ((first
          | (refine step_app_drew wr _ _ rfl (.tmp 15) (.tmp 30) rfl w.heap.size u3 (encL s k) [b1, b2] rfl 2 2 rfl rfl hown rfl hl4 hsz ?_; intro v' w' hown' hbel' hsz')
          | (go_simp; go_at_call 46; (first | (with_reducible refine (C1.out _).mono ?_) | (with_reducible refine (C2.out _).mono ?_)); rintro e w' ⟨rfl, rfl⟩)))
        all_goals clear hw1 hw2 hw3
        all_goals go_wp2
        all_goals
          refine ⟨⟨k + 1, by omega, by go_num, ?_, hbel.trans hbel'⟩, by simp [intOf]; omega⟩
          rw [HST.out]
          exact hown'
      · have hcv := conv_bytes wr _ _ _ hown
        have hd : decide (k < s.size) = false := by simp; omega
        obtain rfl : k = s.size := by omega
        clear hlt
        go_wp2
        go_ret
        exact ⟨by rw [HV.out]; rfl, hbel⟩
end Go.Proofs.YtdponcannphboabDoor
