/- What this text proves: the contract of the program's copyBit: one bit of a byte of the list is set where the bit of the string is. -/
import Derived.Test.YtdponcannphboabDoorLnkU
import Derived.Test.YtdponcannphboabDoorLnkT
import Derived.Test.YtdponcannphboabDoorRow
import Derived.RegionTactic
import Derived.BigRegion
import Derived.Outline
namespace Go.Proofs.YtdponcannphboabDoor
open Go.ChangeShapes Go.WideShapes Go.ChangeAt Go.RowKit
set_option linter.unusedVariables false

theorem set_bit (F x k r : Nat) (hF : F < 256) (hx : x < 256) (hr : r < 8) :
    bits .or .u8 (F : Int) (bits .and .u8 ((x : Int) / 2 ^ k) 1 * 2 ^ r % 256) = ((F ||| (if x.testBit k then 2 ^ r else 0) : Nat) : Int) := by
  have h2 : (2 : Nat) ^ r ≤ 128 := Nat.le_trans (Nat.pow_le_pow_right (by decide) (show r ≤ 7 by omega)) (by decide)
  have e1 : ((x : Int) / 2 ^ k) = ((x / 2 ^ k : Nat) : Int) := by push_cast; rfl
  have hd : x / 2 ^ k < 256 := Nat.lt_of_le_of_lt (Nat.div_le_self _ _) hx
  have e2 := and_b (x / 2 ^ k) 1 hd (by decide)
  rw [e1, show (1 : Int) = ((1 : Nat) : Int) from rfl, e2, Nat.and_one_is_mod, show (2 : Int) ^ r = ((2 ^ r : Nat) : Int) by push_cast; rfl, ← bit_there]
  have h3 : x / 2 ^ k % 2 * 2 ^ r < 256 := by
    have h4 : x / 2 ^ k % 2 ≤ 1 := by omega
    have h5 := Nat.mul_le_mul_right (2 ^ r) h4
    omega
  rw [show ((x / 2 ^ k % 2 : Nat) : Int) * ((2 ^ r : Nat) : Int) % 256 = ((x / 2 ^ k % 2 * 2 ^ r : Nat) : Int) by
    rw [← Int.natCast_mul]
    omega]
  exact or_b F _ hF h3

set_option maxHeartbeats 4000000 in
theorem copy_bit (w : World) (base g n c : Nat) (l : List UInt8) (hrow : RowB w base g n c l) (to fr : Nat) (s : ByteArray) (ht : to < 8 * n) (hf : fr < 8 * s.size) (hn : n ≤ 1099511627776) (hs : s.size ≤ 1099511627776)
    (F : Nat) (hF : l[to / 8]? = some (UInt8.ofNat F)) (hF8 : F < 256) :
    Calls Tryd.prog 49 #[.slice (some ⟨g, 0, none⟩) n c, .int .i64 (to : Int), .string s, .int .i64 (fr : Int)] w fun e w' =>
      e = .returned (.tuple #[]) ∧ w' = (w.setCell ⟨g, to / 8, none⟩ (.int .u8 ((F ||| (if placeB s fr then 2 ^ (to % 8) else 0) : Nat) : Int))).drew := by
  have hj : to / 8 < l.length := by rw [hrow.len]; omega
  have hc : w.cell? ⟨g, to / 8, none⟩ = some (.int .u8 (F : Int)) := by
    rw [hrow.cell (to / 8) (by omega)]
    have e := List.getElem?_eq_some_iff.1 hF
    obtain ⟨h1, e⟩ := e
    rw [e]
    unfold cellB
    rw [ofNat_nat F hF8]
  have hz := hrow.frozen (to / 8)
  have hlt : fr / 8 < s.size := by omega
  have hlt2 : to / 8 < n := by omega
  have eb := byteAt_of s (fr / 8) hlt
  have hb := byteAt_lt s (fr / 8)
  clear hrow hF
  go_enter Tryd.func49, Tryd.ntmps49
  go_wp2
  go_region
  go_end0
  refine ⟨rfl, ?_⟩
  rw [set_bit F _ _ _ hF8 hb (by omega)]
  rfl
end Go.Proofs.YtdponcannphboabDoor
