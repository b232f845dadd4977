/- What this text proves: the contracts of CountSegments and SegmentOf, of the program and the model, and of the program's isFile and isSegment; the laws of both. -/
import Derived.Test.YtjcdekonidekcafOrd
import Derived.Test.YtjcdekonidekcafLaw
import Derived.Laws.Strings2
namespace Go.Proofs.Ytjcdekonidekcaf
open Go.ChangeShapes Go.WideShapes Go.ChangeAt Go.RowKit
set_option linter.unusedVariables false

/-- The number of segments of a file of n bytes. -/
def cntS (n : Int) : Int := if 0 ≤ n ∧ n ≤ 600 then (n + 23) / 24 else 0
theorem cntS_in {n : Int} (h : 0 ≤ n ∧ n ≤ 600) : cntS n = (n + 23) / 24 := if_pos h
theorem cntS_out {n : Int} (h : ¬ (0 ≤ n ∧ n ≤ 600)) : cntS n = 0 := if_neg h
theorem cntS_bd (n : Int) : 0 ≤ cntS n ∧ cntS n ≤ 25 := by unfold cntS; split <;> omega
theorem ret_s {a b : ByteArray} (h : a = b) : Ending.returned (.string a) = .returned (.string b) := by rw [h]
theorem cnt_impl (n : Int) (w : World) :
    Calls Try.prog 53 #[.int .i64 n] w fun e w' => e = .returned (.int .i64 (cntS n)) ∧ w = w' := by
  have H := Lib.hid (iw_any n 0 600)
  by_cases h : 0 ≤ n ∧ n ≤ 600
  · rw [decide_eq_true h] at H
    have HV := Lib.hid (cntS_in h)
    obtain ⟨h1, h2⟩ := h
    go_enter Try.func53, Try.ntmps53
    go_wp2_with fail
    refine (H.out _).mono ?_
    rintro e w' ⟨rfl, rfl⟩
    go_wp2
    go_ret
    exact ⟨ret_i (by rw [HV.out]; omega), rfl⟩
  · rw [decide_eq_false h] at H
    have HV := Lib.hid (cntS_out h)
    clear h
    go_enter Try.func53, Try.ntmps53
    go_wp2_with fail
    refine (H.out _).mono ?_
    rintro e w' ⟨rfl, rfl⟩
    go_wp2
    go_ret
    exact ⟨ret_i (by rw [HV.out]), rfl⟩
theorem cnt_spec (n : Int) (w : World) :
    Calls Try.prog 46 #[.int .i64 n] w fun e w' => e = .returned (.int .i64 (cntS n)) ∧ w = w' := by
  have H := Lib.hid (in_anyP n 0 600)
  by_cases h : 0 ≤ n ∧ n ≤ 600
  · rw [decide_eq_true h] at H
    have HV := Lib.hid (cntS_in h)
    obtain ⟨h1, h2⟩ := h
    go_enter Try.func46, Try.ntmps46
    go_wp2_with fail
    refine (H.out _).mono ?_
    rintro e w' ⟨rfl, rfl⟩
    go_wp2
    go_ret
    exact ⟨ret_i (by rw [HV.out]; omega), rfl⟩
  · rw [decide_eq_false h] at H
    have HV := Lib.hid (cntS_out h)
    clear h
    go_enter Try.func46, Try.ntmps46
    go_wp2_with fail
    refine (H.out _).mono ?_
    rintro e w' ⟨rfl, rfl⟩
    go_wp2
    go_ret
    exact ⟨ret_i (by rw [HV.out]), rfl⟩
theorem fl_impl (n : Int) (w : World) :
    Calls Try.prog 35 #[.int .i64 n] w fun e w' => e = .returned (.bool (decide (0 ≤ n ∧ n ≤ 7))) ∧ w = w' := by
  have H := Lib.hid (iw_any n 0 7)
  generalize decide (0 ≤ n ∧ n ≤ 7) = B at *
  go_enter Try.func35, Try.ntmps35
  go_wp2_with fail
  refine (H.out _).mono ?_
  rintro e w' ⟨rfl, rfl⟩
  go_wp2
  go_ret
  exact ⟨rfl, rfl⟩
def SegOk (k n : Int) : Prop := 0 ≤ k ∧ k ≤ cntS n - 1
instance (k n : Int) : Decidable (SegOk k n) := by unfold SegOk; infer_instance
theorem SegOk.low {k n : Int} (h : SegOk k n) : 0 ≤ n ∧ n ≤ 600 ∧ 24 * k < n ∧ k ≤ 24 := by
  obtain ⟨h1, h2⟩ := h
  unfold cntS at h2
  split at h2 <;> omega
theorem isg_impl (k n : Int) (w : World) :
    Calls Try.prog 57 #[.int .i64 k, .int .i64 n] w fun e w' => e = .returned (.bool (decide (SegOk k n))) ∧ w = w' := by
  have H0 := Lib.hid (cnt_impl n)
  have H := Lib.hid (iw_any k 0 (cntS n - 1))
  obtain ⟨b1, b2⟩ := cntS_bd n
  have HE := Lib.hid (show decide (SegOk k n) = decide (0 ≤ k ∧ k ≤ cntS n - 1) from rfl)
  generalize cntS n = V at *
  generalize decide (0 ≤ k ∧ k ≤ V - 1) = B at *
  go_enter Try.func57, Try.ntmps57
  go_wp2_with fail
  refine (H0.out _).mono ?_
  rintro e w' ⟨rfl, rfl⟩
  go_wp2_with fail
  refine (H.out _).mono ?_
  rintro e w' ⟨rfl, rfl⟩
  go_wp2
  go_ret
  exact ⟨by rw [HE.out]; rfl, rfl⟩
/-- Segment k of a file. -/
noncomputable def segS (d : ByteArray) (k : Int) : ByteArray := if SegOk k d.size then d.extract (24 * k.toNat) (24 * k.toNat + 24) else ⟨#[]⟩
theorem seg_cut (s : ByteArray) (k m : Nat) (hm : min (s.size - k) 24 = m) (hk : k ≤ s.size) : (s.extract k s.size).extract 0 m = s.extract k (k + 24) := by
  apply ByteArray.ext
  apply Array.ext
  · simp [ByteArray.data_extract]; omega
  · intro i h1 h2
    simp [ByteArray.data_extract] at h1 h2 ⊢
theorem seg_min (s : ByteArray) (a b m : Nat) (hm : min s.size b = m) : s.extract a m = s.extract a b := by
  apply ByteArray.ext
  apply Array.ext
  · simp [ByteArray.data_extract]; omega
  · intro i h1 h2
    simp [ByteArray.data_extract] at h1 h2 ⊢
theorem segS_size (d : ByteArray) (k : Int) : (segS d k).size ≤ 24 := by
  unfold segS
  split
  · simp; omega
  · exact Nat.zero_le _
theorem slice_head (s : ByteArray) (m : Nat) (hm : m ≤ s.size) : ∀ W : World, (Instr.slice 9 (.string s) none (some (.int .i64 (m : Int))) none).run Try.prog W = .ok (.string (s.extract 0 m)) W := fun W => by
  have h := run_slice_string_to_if W 9 s .i64 (m : Int) Try.underlying9
  rw [if_pos (by omega), show ((m : Int)).toNat = m from by omega] at h
  exact h
theorem slice_tail (s : ByteArray) (m : Nat) (hm : m ≤ s.size) : ∀ W : World, (Instr.slice 9 (.string s) (some (.int .i64 (m : Int))) none none).run Try.prog W = .ok (.string (s.extract m s.size)) W := fun W => by
  have h := run_slice_string_from_if W 9 s .i64 (m : Int) Try.underlying9
  rw [if_pos (by omega), show ((m : Int)).toNat = m from by omega] at h
  exact h
theorem slice_mid (s : ByteArray) (a b : Nat) (hab : a ≤ b) (hb : b ≤ s.size) : ∀ W : World, (Instr.slice 9 (.string s) (some (.int .i64 (a : Int))) (some (.int .i64 (b : Int))) none).run Try.prog W = .ok (.string (s.extract a b)) W := fun W => by
  have h := run_slice_string W 9 s .i64 .i64 (a : Int) (b : Int) Try.underlying9 (by omega) (by omega) (by omega)
  simpa using h
end Go.Proofs.Ytjcdekonidekcaf
