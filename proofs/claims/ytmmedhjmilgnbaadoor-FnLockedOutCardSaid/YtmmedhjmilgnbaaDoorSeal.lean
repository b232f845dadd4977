/- What this text proves: the contracts of SealText and OpenText: program and model both return, for every text of at most 1048576 bytes, the text and the two bytes of its check; and the text without them, if they are its check. -/
import Derived.Test.YtmmedhjmilgnbaaDoorCheck
import Derived.Test.YtmmedhjmilgnbaaDoorPutS
import Derived.Laws.Concat
namespace Go.Proofs.YtmmedhjmilgnbaaDoor
open Go.ChangeShapes Go.WideShapes Go.ChangeAt Go.RowKit
set_option linter.unusedVariables false

theorem putS_size (n k : Int) : (putS n k).size ≤ 4 := by
  unfold putS
  split
  · rename_i h
    have h2 := h.2.1
    show ((putB n.toNat k.toNat).toArray).size ≤ 4
    rw [List.size_toArray, putB_len]
    omega
  · show (#[] : Array UInt8).size ≤ 4
    decide
/-- A text and the two bytes of its check. -/
noncomputable def sealS (s : ByteArray) : ByteArray := s ++ putS (crc s : Nat) 2
theorem seal_impl (s : ByteArray) (hs : s.size ≤ 1048578) (w : World) :
    Calls Tryd.prog 40 #[.string s] w fun e w' => e = .returned (.string (sealS s)) ∧ Below w.heap.size w w' := by
  have hm : s.size ≤ maxLen := by unfold maxLen; omega
  have H1 := Lib.hid (check_impl s hm)
  have H2 := Lib.hid (put_impl (crc s : Nat) 2)
  have ht := putS_size (crc s : Nat) 2
  have HS := Lib.hid (show s ++ putS (crc s : Nat) 2 = sealS s from rfl)
  generalize sealS s = r at *
  generalize crc s = c at *
  generalize putS (c : Int) 2 = t at *
  clear hm
  go_enter Tryd.func40, Tryd.ntmps40
  go_wp2_with fail
  refine (H1.out _).mono ?_
  rintro e w1 ⟨rfl, pos, hw⟩
  have hb1 : Below w.heap.size w w1 := by rw [hw]; exact below_iter w s pos
  clear hw
  go_wp2_with fail
  refine (H2.out _).mono ?_
  rintro e w2 ⟨rfl, hb2⟩
  go_wp2
  go_ret
  exact ⟨by rw [← HS.out]; rfl, hb1.trans (hb2.mono hb1.size)⟩
theorem seal_spec (s : ByteArray) (hs : s.size ≤ 1048578) (w : World) :
    Calls Tryd.prog 45 #[.string s] w fun e w' => e = .returned (.string (sealS s)) ∧ Below w.heap.size w w' := by
  have hm : s.size ≤ maxLen := by unfold maxLen; omega
  have H1 := Lib.hid (check_spec s hm)
  have H2 := Lib.hid (put_spec (crc s : Nat) 2)
  have ht := putS_size (crc s : Nat) 2
  have HS := Lib.hid (show s ++ putS (crc s : Nat) 2 = sealS s from rfl)
  generalize sealS s = r at *
  generalize crc s = c at *
  generalize putS (c : Int) 2 = t at *
  clear hm
  go_enter Tryd.func45, Tryd.ntmps45
  go_wp2_with fail
  refine (H1.out _).mono ?_
  rintro e w1 ⟨rfl, hw⟩
  have hb1 : Below w.heap.size w w1 := by rw [← hw]; exact Below.refl _ _
  clear hw
  go_wp2_with fail
  refine (H2.out _).mono ?_
  rintro e w2 ⟨rfl, hb2⟩
  go_wp2
  go_ret
  exact ⟨by rw [← HS.out]; rfl, hb1.trans (hb2.mono hb1.size)⟩

def OpenOk (s : ByteArray) : Prop := 2 ≤ s.size ∧ ((sealS (s.extract 0 (s.size - 2))).toList == s.toList) = true
/-- What OpenText returns. -/
noncomputable def openV (s : ByteArray) : ByteArray × Bool := open Classical in if OpenOk s then (s.extract 0 (s.size - 2), true) else (⟨#[]⟩, false)
theorem openV_yes {s : ByteArray} (h : OpenOk s) : openV s = (s.extract 0 (s.size - 2), true) := by unfold openV; rw [if_pos h]
theorem openV_no {s : ByteArray} (h : ¬ OpenOk s) : openV s = (⟨#[]⟩, false) := by unfold openV; rw [if_neg h]
def retO (p : ByteArray × Bool) : Ending := .returned (.tuple #[.string p.1, .bool p.2])
theorem slice_to (s : ByteArray) (h2 : 2 ≤ s.size) : ∀ W : World, (Instr.slice 9 (.string s) none (some (.int .i64 ((s.size : Int) - 2))) none).run Tryd.prog W = .ok (.string (s.extract 0 (s.size - 2))) W := fun W => by
  have h := run_slice_string_to_if W 9 s .i64 ((s.size : Int) - 2) Tryd.underlying9
  rw [if_pos (by omega), show ((s.size : Int) - 2).toNat = s.size - 2 from by omega] at h
  exact h

theorem open_impl (s : ByteArray) (hs : s.size ≤ 1048576) (w : World) :
    Calls Tryd.prog 37 #[.string s] w fun e w' => e = retO (openV s) ∧ Below w.heap.size w w' := by
  by_cases h2 : 2 ≤ s.size
  · have hd' : decide ((s.size : Int) < 2) = false := by simp; omega
    have hx : (s.extract 0 (s.size - 2)).size ≤ 1048578 := by simp; omega
    have hsl := slice_to s h2
    have H1 := Lib.hid (seal_impl _ hx)
    clear hx
    by_cases hb : ((sealS (s.extract 0 (s.size - 2))).toList == s.toList) = true
    · have HV := Lib.hid (openV_yes ⟨h2, hb⟩)
      generalize sealS (s.extract 0 (s.size - 2)) = r at H1 hb
      go_enter Tryd.func37, Tryd.ntmps37
      go_wp2_with (go_at_call 40; refine (H1.out _).mono ?_; rintro e w1 ⟨rfl, hb1⟩)
      go_ret2
      exact ⟨by rw [HV.out]; rfl, hb1⟩
    · have HV := Lib.hid (openV_no (s := s) (fun h => hb h.2))
      have hb' : ((sealS (s.extract 0 (s.size - 2))).toList == s.toList) = false := by simpa using hb
      clear hb
      generalize sealS (s.extract 0 (s.size - 2)) = r at H1 hb'
      go_enter Tryd.func37, Tryd.ntmps37
      go_wp2_with (go_at_call 40; refine (H1.out _).mono ?_; rintro e w1 ⟨rfl, hb1⟩)
      go_ret2
      exact ⟨by rw [HV.out]; rfl, hb1⟩
  · have HV := Lib.hid (openV_no (s := s) (fun h => h2 h.1))
    have h2' : s.size < 2 := by omega
    clear h2
    go_enter Tryd.func37, Tryd.ntmps37
    go_wp2
    go_ret2
    exact ⟨by rw [HV.out]; rfl, Below.refl _ _⟩

theorem open_spec (s : ByteArray) (hs : s.size ≤ 1048576) (w : World) :
    Calls Tryd.prog 41 #[.string s] w fun e w' => e = retO (openV s) ∧ Below w.heap.size w w' := by
  by_cases h2 : 2 ≤ s.size
  · have hd' : decide ((s.size : Int) - 2 < 0) = false := by simp; omega
    have hx : (s.extract 0 (s.size - 2)).size ≤ 1048578 := by simp; omega
    have hsl := slice_to s h2
    have H1 := Lib.hid (seal_spec _ hx)
    clear hx
    by_cases hb : ((sealS (s.extract 0 (s.size - 2))).toList == s.toList) = true
    · have HV := Lib.hid (openV_yes ⟨h2, hb⟩)
      generalize sealS (s.extract 0 (s.size - 2)) = r at H1 hb
      go_enter Tryd.func41, Tryd.ntmps41
      go_wp2_with (go_at_call 45; refine (H1.out _).mono ?_; rintro e w1 ⟨rfl, hb1⟩)
      go_ret2
      exact ⟨by rw [HV.out]; rfl, hb1⟩
    · have HV := Lib.hid (openV_no (s := s) (fun h => hb h.2))
      have hb' : ((sealS (s.extract 0 (s.size - 2))).toList == s.toList) = false := by simpa using hb
      clear hb
      generalize sealS (s.extract 0 (s.size - 2)) = r at H1 hb'
      go_enter Tryd.func41, Tryd.ntmps41
      go_wp2_with (go_at_call 45; refine (H1.out _).mono ?_; rintro e w1 ⟨rfl, hb1⟩)
      go_ret2
      exact ⟨by rw [HV.out]; rfl, hb1⟩
  · have HV := Lib.hid (openV_no (s := s) (fun h => h2 h.1))
    have hd' : decide ((s.size : Int) - 2 < 0) = true := by simp; omega
    clear h2
    go_enter Tryd.func41, Tryd.ntmps41
    go_wp2
    go_ret2
    exact ⟨by rw [HV.out]; rfl, Below.refl _ _⟩

end Go.Proofs.YtmmedhjmilgnbaaDoor
