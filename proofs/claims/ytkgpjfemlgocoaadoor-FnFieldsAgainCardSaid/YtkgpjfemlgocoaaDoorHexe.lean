/- What this text proves: the contracts of EncodeHex: program and model both return, for every text of at most 20000 bytes, two digits for each of its bytes. -/
import Derived.Test.YtkgpjfemlgocoaaDoorHexd
import Derived.Deep.RegionLaw
import Derived.BigRegion
import Derived.Outline
namespace Go.Proofs.YtkgpjfemlgocoaaDoor
open Go.ChangeShapes Go.WideShapes Go.ChangeAt Go.RowKit
set_option linter.unusedVariables false

/-- The digit of a number from 0 to 15. -/
def figB (x : Nat) : UInt8 := if x < 10 then UInt8.ofNat (48 + x) else UInt8.ofNat (87 + x)
/-- The digits of the first k bytes. -/
def encB (s : ByteArray) : Nat → List UInt8
  | 0 => []
  | k + 1 => encB s k ++ [figB (byteAt s k / 16), figB (byteAt s k % 16)]
theorem encB_len (s : ByteArray) (k : Nat) : (encB s k).length = 2 * k := by
  induction k with
  | zero => rfl
  | succ k ih => simp [encB, ih]; omega

theorem figure_any (x : Nat) (hx : x < 16) (w : World) :
    Calls Tryd.prog 21 #[.int .i64 x] w fun e w' => e = .returned (.int .u8 ((figB x).toNat : Int)) ∧ w = w' := by
  by_cases h : x < 10
  · have hv := Lib.hid (show ((figB x).toNat : Int) = 48 + (x : Int) by unfold figB; rw [if_pos h, UInt8.toNat_ofNat']; omega)
    have d : decide ((x : Int) < 10) = true := by simp; omega
    clear hx
    go_enter Tryd.func21, Tryd.ntmps21
    go_wp2
    go_ret
    exact ⟨by rw [hv.out]; rfl, rfl⟩
  · have hv := Lib.hid (show ((figB x).toNat : Int) = 97 + (x : Int) - 10 by unfold figB; rw [if_neg h, UInt8.toNat_ofNat']; omega)
    have d : decide ((x : Int) < 10) = false := by simp; omega
    clear h
    go_enter Tryd.func21, Tryd.ntmps21
    go_wp2
    go_ret
    exact ⟨by rw [hv.out]; rfl, rfl⟩

theorem index_digits (n : Nat) (hn : n < 16) (W : World) :
    (Instr.index 9 (.string ⟨#[48, 49, 50, 51, 52, 53, 54, 55, 56, 57, 97, 98, 99, 100, 101, 102]⟩) (.int .u8 (n : Int))).run Tryd.prog W = .ok (.int .u8 ((figB n).toNat : Int)) W := by
  rw [run_index_string W 9 _ .u8 (n : Int) Tryd.underlying9]
  rw [dif_pos (show 0 ≤ (n : Int) ∧ (n : Int) < ((⟨#[48, 49, 50, 51, 52, 53, 54, 55, 56, 57, 97, 98, 99, 100, 101, 102]⟩ : ByteArray).size : Int) from ⟨by omega, by show (n : Int) < ((16 : Nat) : Int); omega⟩)]
  obtain rfl | rfl | rfl | rfl | rfl | rfl | rfl | rfl | rfl | rfl | rfl | rfl | rfl | rfl | rfl | rfl : n = 0 ∨ n = 1 ∨ n = 2 ∨ n = 3 ∨ n = 4 ∨ n = 5 ∨ n = 6 ∨ n = 7 ∨ n = 8 ∨ n = 9 ∨ n = 10 ∨ n = 11 ∨ n = 12 ∨ n = 13 ∨ n = 14 ∨ n = 15 := by omega
  all_goals rfl
set_option maxHeartbeats 2000000 in
theorem enc_impl_yes (s : ByteArray) (hs : s.size ≤ 20000) (w : World) :
    Calls Tryd.prog 14 #[.string s] w fun e w' => e = retD (⟨(encB s s.size).toArray⟩, true) ∧ Below w.heap.size w w' := by
  have d1 : decide ((20000 : Int) < (s.size : Int)) = false := by simp; omega
  have hmk : ∀ W : World, (Instr.makeSlice 27 (.int .i64 0) (.int .i64 (2 * (s.size : Int)))).run Tryd.prog W = .ok (.slice (some ⟨W.heap.size, 0, none⟩) 0 (2 * s.size)) (W.alloc (.cells (madeB (2 * s.size)) 5)) := fun W => by
    rw [show 2 * (s.size : Int) = ((2 * s.size : Nat) : Int) from by omega]
    exact make_bytes W (2 * s.size) (by omega)
  go_enter Tryd.func14, Tryd.ntmps14
  go_wp2
  go_loopw [4, 15] (fun v i wr => ∃ k : Nat, k ≤ s.size ∧ i = .int .i64 (k : Int) ∧ OwnB wr w.heap.size v (encB s k) ∧ Below w.heap.size w wr) (fun _ i _ => s.size - (intOf i).toNat)
  case atStart => exact ⟨0, by omega, rfl, OwnB.made w _ _ (Nat.le_refl _) (by omega) _ (madeB_size _), (Below.refl _ _).alloc (Nat.le_refl _) _⟩
  case round =>
    obtain ⟨k, hk, rfl, hown, hbel⟩ := hrel
    have hsz := hbel.size
    by_cases hlt : k < s.size
    · have hd : decide (k < s.size) = true := by simp; omega
      have hb := UInt8.toNat_lt (s[k]'hlt)
      have hx1 : ∀ W : World, (Instr.index 9 (.string ⟨#[48, 49, 50, 51, 52, 53, 54, 55, 56, 57, 97, 98, 99, 100, 101, 102]⟩) (.int .u8 ((s[k].toNat : Int) / 16))).run Tryd.prog W = .ok (.int .u8 ((figB (s[k].toNat / 16)).toNat : Int)) W := fun W => by
        rw [show (s[k].toNat : Int) / 16 = ((s[k].toNat / 16 : Nat) : Int) from by omega]
        exact index_digits _ (by omega) W
      have hx2 : ∀ W : World, (Instr.index 9 (.string ⟨#[48, 49, 50, 51, 52, 53, 54, 55, 56, 57, 97, 98, 99, 100, 101, 102]⟩) (.int .u8 ((s[k].toNat : Int) % 16))).run Tryd.prog W = .ok (.int .u8 ((figB (s[k].toNat % 16)).toNat : Int)) W := fun W => by
        rw [show (s[k].toNat : Int) % 16 = ((s[k].toNat % 16 : Nat) : Int) from by omega]
        exact index_digits _ (by omega) W
      have hx3 : bits .and .u8 (s[k].toNat : Int) 15 = (s[k].toNat : Int) % 16 := bits_mask .u8 8 (by decide) wraps_u8 4 (by decide) _ (by omega) (by omega)
      have hl4 : (encB s k).length + 2 ≤ 1099511627776 := by rw [encB_len]; omega
      go_wp2
      go_region_law ((refine step_app_drew wr _ _ rfl (.tmp 18) (.tmp 29) rfl w.heap.size u4 (encB s k) [figB (s[k].toNat / 16), figB (s[k].toNat % 16)] rfl 2 2 rfl rfl hown rfl hl4 hsz ?_; intro v' w' hown' hbel' hsz'))
      all_goals go_wp2
      all_goals
        refine ⟨⟨k + 1, by omega, by go_num, ?_, hbel.trans hbel'⟩, by simp [intOf]; omega⟩
        rw [show encB s (k + 1) = encB s k ++ [figB (s[k].toNat / 16), figB (s[k].toNat % 16)] from by rw [byteAt_of s k hlt]; rfl]
        exact hown'
    · have hcv := conv_bytes wr _ _ _ hown
      have hd : decide (k < s.size) = false := by simp; omega
      obtain rfl : k = s.size := by omega
      clear hlt
      go_wp2
      go_ret2
      exact ⟨rfl, hbel⟩

def EncOk (s : ByteArray) : Prop := s.size ≤ 20000
/-- What EncodeHex returns. -/
noncomputable def encV (s : ByteArray) : ByteArray × Bool := open Classical in if EncOk s then (⟨(encB s s.size).toArray⟩, true) else (⟨#[]⟩, false)
theorem encV_yes {s : ByteArray} (h : s.size ≤ 20000) : encV s = (⟨(encB s s.size).toArray⟩, true) := by unfold encV; rw [if_pos (show EncOk s from h)]
theorem encV_no {s : ByteArray} (h : ¬ s.size ≤ 20000) : encV s = (⟨#[]⟩, false) := by unfold encV; rw [if_neg (show ¬ EncOk s from h)]

theorem enc_impl (s : ByteArray) (hs : s.size ≤ 1048576) (w : World) :
    Calls Tryd.prog 14 #[.string s] w fun e w' => e = retD (encV s) ∧ Below w.heap.size w w' := by
  by_cases h : s.size ≤ 20000
  · rw [encV_yes h]
    exact enc_impl_yes s h w
  · have HV := Lib.hid (encV_no h)
    have d1 : decide ((20000 : Int) < (s.size : Int)) = true := by simp; omega
    clear h
    go_enter Tryd.func14, Tryd.ntmps14
    go_wp2
    go_ret2
    exact ⟨by rw [HV.out]; rfl, Below.refl _ _⟩

end Go.Proofs.YtkgpjfemlgocoaaDoor
