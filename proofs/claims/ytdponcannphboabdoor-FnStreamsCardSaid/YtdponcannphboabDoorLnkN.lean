/- What this text proves: the contract of the program's Scramble. -/
import Derived.Test.YtdponcannphboabDoorLnkU
import Derived.Test.YtdponcannphboabDoorCbuf
import Derived.Test.YtdponcannphboabDoorOnes
import Derived.BigRegion
import Derived.Outline
import Derived.RegionTactic
import Derived.Deep.LoopGhost
namespace Go.Proofs.YtdponcannphboabDoor
open Go.ChangeShapes Go.WideShapes Go.ChangeAt Go.RowKit
set_option linter.unusedVariables false

/-- The bytes when k of them are scrambled. -/
def scrP (s : ByteArray) (k : Nat) : List UInt8 := (List.range s.size).map fun j => UInt8.ofNat (if j < k then byteAt s j ^^^ seqX j else byteAt s j)
theorem scrP_len (s : ByteArray) (k : Nat) : (scrP s k).length = s.size := by simp [scrP]
theorem scrP_at (s : ByteArray) (k j : Nat) (h : j < (scrP s k).length) : (scrP s k)[j] = UInt8.ofNat (if j < k then byteAt s j ^^^ seqX j else byteAt s j) := by simp [scrP]
theorem byteAt_get (s : ByteArray) (j : Nat) (h : j < s.data.toList.length) : UInt8.ofNat (byteAt s j) = s.data.toList[j] := by
  unfold byteAt
  rw [List.getD_eq_getElem?_getD, List.getElem?_eq_getElem h]
  simp
theorem scrP_zero (s : ByteArray) : s.data.toList = scrP s 0 := by
  refine List.ext_getElem (by simp [scrP]) fun j h1 h2 => ?_
  rw [scrP_at, if_neg (by omega), byteAt_get s j h1]
theorem scrP_step (s : ByteArray) (k : Nat) : (scrP s k).set k (UInt8.ofNat (byteAt s k ^^^ seqX k)) = scrP s (k + 1) := by
  refine List.ext_getElem (by simp [scrP]) fun j h1 h2 => ?_
  rw [List.getElem_set, scrP_at, scrP_at]
  by_cases e : k = j
  · subst e
    rw [if_pos rfl, if_pos (by omega)]
  · rw [if_neg e]
    by_cases h : j < k
    · rw [if_pos h, if_pos (by omega)]
    · rw [if_neg h, if_neg (by omega)]
theorem scrP_all (s : ByteArray) : (⟨(scrP s s.size).toArray⟩ : ByteArray) = scrT s := by
  unfold scrP scrT bytesT
  congr 2
  refine List.map_congr_left fun j hj => ?_
  rw [if_pos (List.mem_range.1 hj)]
theorem next_step (X : Nat) (h : X < 256) : bits .or .i64 (bits .and .i64 ((X : Int) * 2) 255) (((ones 32 (X &&& 149) : Nat) : Int) % 2) = ((nextX X : Nat) : Int) := by
  have : ∀ k : Fin 256, bits .or .i64 (bits .and .i64 ((k.val : Int) * 2) 255) (((ones 32 (k.val &&& 149) : Nat) : Int) % 2) = ((nextX k.val : Nat) : Int) := by decide +kernel
  exact this ⟨X, h⟩

set_option maxHeartbeats 4000000 in
theorem scram_impl (s : ByteArray) (hs : s.size ≤ 1048576) (w : World) :
    Calls Tryd.prog 29 #[.string s] w fun e w' => e = .returned (.string (scrT s)) ∧ Below w.heap.size w w' := by
  obtain ⟨cap, w1, hnew⟩ := conv_new s
  have hconv := fun W => (hnew W).1
  have H0 := Lib.hid (hnew w).2
  have hz : s.data.toList.length = s.size := by simp
  clear hnew
  go_enter Tryd.func29, Tryd.ntmps29
  go_wp2
  clear hconv
  go_loopg [4, 10] s.size (fun g s4 s10 wx => ∃ k : Nat, k ≤ s.size ∧ g = s.size - k ∧ s10 = .int .i64 (k : Int) ∧ s4 = .int .i64 ((seqX k : Nat) : Int) ∧ RowC wx w.heap.size (scrP s k) ∧ Below w.heap.size w wx)
  case atStart => exact ⟨0, by omega, rfl, rfl, rfl, H0.out.2.same (scrP_zero s), H0.out.1⟩
  case round =>
    obtain ⟨k, hk, rfl, rfl, rfl, hrow, hbel⟩ := hrel
    have HB := Lib.hid hbel
    have HR := Lib.hid hrow
    by_cases hlt : k < s.size
    · have hd : decide (k < s.size) = true := by simp; omega
      have hX := seqX_lt k
      have hb := byteAt_lt s k
      have hc : wr.cell? ⟨w.heap.size, k, none⟩ = some (.int .u8 ((byteAt s k : Nat) : Int)) := by
        rw [hrow.cell k (by rw [scrP_len]; exact hlt), scrP_at, if_neg (by omega)]
        unfold cellB
        rw [ofNat_nat _ hb]
      have hf := hrow.frozen k (by rw [scrP_len]; exact hlt)
      have hst := hrow.store k (UInt8.ofNat (byteAt s k ^^^ seqX k))
      rw [scrP_step, ofNat_nat _ (scr_lt s k)] at hst
      have hxr := xor_b (byteAt s k) (seqX k) hb hX
      have hwx : IntKind.u8.wrap ((seqX k : Nat) : Int) = ((seqX k : Nat) : Int) := wrapb _ (by omega) (by omega)
      have hnx := next_step (seqX k) hX
      have hsx : nextX (seqX k) = seqX (k + 1) := rfl
      have ha := and_i64 (seqX k) 149 (by omega) (by omega)
      have hle : seqX k &&& 149 ≤ seqX k := Nat.and_le_left
      have cC := count_impl ((seqX k &&& 149 : Nat) : Int)
      rw [countN_in _ (by omega)] at cC
      have HST := Lib.hid hst
      have HSX := Lib.hid hsx
      have HNX := Lib.hid hnx
      have CC := Lib.hid cC
      have ho : (0 : Int) ≤ ((ones 32 (seqX k &&& 149) : Nat) : Int) := Int.natCast_nonneg _
      have ho2 := ones_le 32 (seqX k &&& 149)
      clear hst hsx hnx hrow hbel cC
      generalize seqX k = X at *
      generalize byteAt s k ^^^ X = y at *
      generalize byteAt s k = b at *
      generalize ones 32 (X &&& 149) = o at *
      have ha' : bits .and .i64 (X : Int) 149 = ((X &&& 149 : Nat) : Int) := ha
      clear ha
      go_wp2_with (go_at_call 47; refine (CC.out _).mono ?_; rintro e w' ⟨rfl, rfl⟩)
      go_roundg (s.size - (k + 1))
      case measure => omega
      case rel =>
        exact ⟨k + 1, by omega, rfl, by go_num, by rw [HNX.out, HSX.out], HST.out, HB.out.setCell (p := ⟨w.heap.size, k, none⟩) (Nat.le_refl _) _⟩
    · obtain rfl : k = s.size := by omega
      have hd : decide (s.size < s.size) = false := by simp
      have hcv := hrow.conv (cap := cap w) (scrP_len s s.size)
      clear hrow hbel
      go_wp2
      go_ret
      exact ⟨by rw [← scrP_all]; rfl, HB.out⟩
end Go.Proofs.YtdponcannphboabDoor
