/- What this text proves: the parts Sg, Byte, Bytes of the proof, each under its own words. -/
import Derived.Test.YtckofkdeedbbgaaV03
import Derived.Test.YtckofkdeedbbgaaV00
import Derived.Laws.Strings2
import Derived.Lib.Hide
import Derived.Test.YtckofkdeedbbgaaV01
import Derived.LoopTactic
import Derived.IntWalk
/- What this text proves: the contracts of CountSegments and SegmentOf, of the program and the model, and of the program's isFile and isSegment; the laws of both. -/
namespace Go.Proofs.Ytckofkdeedbbgaa
open Go.ChangeShapes Go.WideShapes Go.ChangeAt Go.RowKit
set_option linter.unusedVariables false

/-- The number of segments of a file of n bytes. -/
def cntS (n : Int) : Int := if 0 ≤ n ∧ n ≤ 600 then (n + 23) / 24 else 0
theorem cntS_in {n : Int} (h : 0 ≤ n ∧ n ≤ 600) : cntS n = (n + 23) / 24 := if_pos h
theorem cntS_out {n : Int} (h : ¬ (0 ≤ n ∧ n ≤ 600)) : cntS n = 0 := if_neg h
theorem cntS_bd (n : Int) : 0 ≤ cntS n ∧ cntS n ≤ 25 := by unfold cntS; split <;> omega
theorem ret_s {a b : ByteArray} (h : a = b) : Ending.returned (.string a) = .returned (.string b) := by rw [h]
theorem cnt_impl (n : Int) (w : World) :
    Calls Try.prog 78 #[.int .i64 n] w fun e w' => e = .returned (.int .i64 (cntS n)) ∧ w = w' := by
  have H := Lib.hid (iw_any n 0 600)
  by_cases h : 0 ≤ n ∧ n ≤ 600
  · rw [decide_eq_true h] at H
    have HV := Lib.hid (cntS_in h)
    obtain ⟨h1, h2⟩ := h
    go_enter Try.func78, Try.ntmps78
    go_wp2_with fail
    refine (H.out _).mono ?_
    rintro e w' ⟨rfl, rfl⟩
    go_wp2
    go_ret
    exact ⟨ret_i (by rw [HV.out]; omega), rfl⟩
  · rw [decide_eq_false h] at H
    have HV := Lib.hid (cntS_out h)
    clear h
    go_enter Try.func78, Try.ntmps78
    go_wp2_with fail
    refine (H.out _).mono ?_
    rintro e w' ⟨rfl, rfl⟩
    go_wp2
    go_ret
    exact ⟨ret_i (by rw [HV.out]), rfl⟩
theorem fl_impl (n : Int) (w : World) :
    Calls Try.prog 82 #[.int .i64 n] w fun e w' => e = .returned (.bool (decide (0 ≤ n ∧ n ≤ 7))) ∧ w = w' := by
  have H := Lib.hid (iw_any n 0 7)
  generalize decide (0 ≤ n ∧ n ≤ 7) = B at *
  go_enter Try.func82, Try.ntmps82
  go_wp2_with fail
  refine (H.out _).mono ?_
  rintro e w' ⟨rfl, rfl⟩
  go_wp2
  go_ret
  exact ⟨rfl, rfl⟩
def SegOk (k n : Int) : Prop := 0 ≤ k ∧ k ≤ cntS n - 1
instance (k n : Int) : Decidable (SegOk k n) := by unfold SegOk; infer_instance
theorem SegOk.low {k n : Int} (h : SegOk k n) : 0 ≤ n ∧ n ≤ 600 ∧ 24 * k < n ∧ k ≤ 24 := by
  obtain ⟨h1, h2⟩ := h
  unfold cntS at h2
  split at h2 <;> omega
theorem isg_impl (k n : Int) (w : World) :
    Calls Try.prog 88 #[.int .i64 k, .int .i64 n] w fun e w' => e = .returned (.bool (decide (SegOk k n))) ∧ w = w' := by
  have H0 := Lib.hid (cnt_impl n)
  have H := Lib.hid (iw_any k 0 (cntS n - 1))
  obtain ⟨b1, b2⟩ := cntS_bd n
  have HE := Lib.hid (show decide (SegOk k n) = decide (0 ≤ k ∧ k ≤ cntS n - 1) from rfl)
  generalize cntS n = V at *
  generalize decide (0 ≤ k ∧ k ≤ V - 1) = B at *
  go_enter Try.func88, Try.ntmps88
  go_wp2_with fail
  refine (H0.out _).mono ?_
  rintro e w' ⟨rfl, rfl⟩
  go_wp2_with fail
  refine (H.out _).mono ?_
  rintro e w' ⟨rfl, rfl⟩
  go_wp2
  go_ret
  exact ⟨by rw [HE.out]; rfl, rfl⟩
/-- Segment k of a file. -/
noncomputable def segS (d : ByteArray) (k : Int) : ByteArray := if SegOk k d.size then d.extract (24 * k.toNat) (24 * k.toNat + 24) else ⟨#[]⟩
theorem seg_cut (s : ByteArray) (k m : Nat) (hm : min (s.size - k) 24 = m) (hk : k ≤ s.size) : (s.extract k s.size).extract 0 m = s.extract k (k + 24) := by
  apply ByteArray.ext
  apply Array.ext
  · simp [ByteArray.data_extract]; omega
  · intro i h1 h2
    simp [ByteArray.data_extract] at h1 h2 ⊢
theorem seg_min (s : ByteArray) (a b m : Nat) (hm : min s.size b = m) : s.extract a m = s.extract a b := by
  apply ByteArray.ext
  apply Array.ext
  · simp [ByteArray.data_extract]; omega
  · intro i h1 h2
    simp [ByteArray.data_extract] at h1 h2 ⊢
theorem segS_size (d : ByteArray) (k : Int) : (segS d k).size ≤ 24 := by
  unfold segS
  split
  · simp; omega
  · exact Nat.zero_le _
theorem slice_head (s : ByteArray) (m : Nat) (hm : m ≤ s.size) : ∀ W : World, (Instr.slice 9 (.string s) none (some (.int .i64 (m : Int))) none).run Try.prog W = .ok (.string (s.extract 0 m)) W := fun W => by
  have h := run_slice_string_to_if W 9 s .i64 (m : Int) Try.underlying9
  rw [if_pos (by omega), show ((m : Int)).toNat = m from by omega] at h
  exact h
theorem slice_tail (s : ByteArray) (m : Nat) (hm : m ≤ s.size) : ∀ W : World, (Instr.slice 9 (.string s) (some (.int .i64 (m : Int))) none none).run Try.prog W = .ok (.string (s.extract m s.size)) W := fun W => by
  have h := run_slice_string_from_if W 9 s .i64 (m : Int) Try.underlying9
  rw [if_pos (by omega), show ((m : Int)).toNat = m from by omega] at h
  exact h
theorem slice_mid (s : ByteArray) (a b : Nat) (hab : a ≤ b) (hb : b ≤ s.size) : ∀ W : World, (Instr.slice 9 (.string s) (some (.int .i64 (a : Int))) (some (.int .i64 (b : Int))) none).run Try.prog W = .ok (.string (s.extract a b)) W := fun W => by
  have h := run_slice_string W 9 s .i64 .i64 (a : Int) (b : Int) Try.underlying9 (by omega) (by omega) (by omega)
  simpa using h
set_option maxHeartbeats 1000000 in
theorem seg_impl (d : ByteArray) (k : Int) (hd : d.size ≤ 1048576) (w : World) :
    Calls Try.prog 136 #[.string d, .int .i64 k] w fun e w' => e = .returned (.string (segS d k)) ∧ w = w' := by
  have H := Lib.hid (isg_impl k d.size)
  by_cases h : SegOk k d.size
  · rw [decide_eq_true h] at H
    obtain ⟨_, l2, l3, l4⟩ := h.low
    obtain ⟨j, rfl⟩ := Int.eq_ofNat_of_zero_le h.1
    have HV := Lib.hid (show segS d (j : Int) = d.extract (24 * j) (24 * j + 24) from if_pos h)
    have hj : 24 * j ≤ d.size := by omega
    clear h l3
    rw [Nat.mul_comm 24 j] at HV hj
    by_cases h24 : 24 < d.size - j * 24
    · have h25 : (24 : Int) < ((d.size - j * 24 : Nat) : Int) := by omega
      have HC := Lib.hid (seg_cut d (j * 24) 24 (by omega) hj)
      clear h24
      go_enter Try.func136, Try.ntmps136
      go_wp2_with fail
      refine (H.out _).mono ?_
      rintro e w' ⟨rfl, rfl⟩
      go_wp2
      go_ret
      exact ⟨ret_s (HC.out.trans HV.out.symm), rfl⟩
    · have h25 : ((d.size - j * 24 : Nat) : Int) ≤ (24 : Int) := by omega
      have HC := Lib.hid (seg_cut d (j * 24) (d.size - j * 24) (by omega) hj)
      clear h24
      go_enter Try.func136, Try.ntmps136
      go_wp2_with fail
      refine (H.out _).mono ?_
      rintro e w' ⟨rfl, rfl⟩
      go_wp2
      go_ret
      exact ⟨ret_s (HC.out.trans HV.out.symm), rfl⟩
  · rw [decide_eq_false h] at H
    have HV := Lib.hid (show segS d k = ⟨#[]⟩ from if_neg h)
    clear h
    go_enter Try.func136, Try.ntmps136
    go_wp2_with fail
    refine (H.out _).mono ?_
    rintro e w' ⟨rfl, rfl⟩
    go_wp2
    go_ret
    exact ⟨by rw [HV.out]; rfl, rfl⟩
end Go.Proofs.Ytckofkdeedbbgaa
/- What this text proves: a byte of a text, read by its index. -/
namespace Go.Proofs.Ytckofkdeedbbgaa
open Go

/-- The byte at an index; 0 where there is none. -/
def byteAt (s : ByteArray) (i : Nat) : Nat := (s.data.toList.getD i 0).toNat
theorem byteAt_of (s : ByteArray) (i : Nat) (h : i < s.size) : (s[i]).toNat = byteAt s i := by
  have h' : i < s.data.toList.length := by simpa using h
  unfold byteAt
  rw [List.getD_eq_getElem?_getD, List.getElem?_eq_getElem h']
  rfl
theorem byteAt_lt (s : ByteArray) (i : Nat) : byteAt s i < 256 := by unfold byteAt; exact UInt8.toNat_lt _
end Go.Proofs.Ytckofkdeedbbgaa
/- What this text proves: the contract of GetWord: program and model both return, for every text, index and size, the value of the bytes from the index on, the highest ones first, or 0 and false if they are not there. -/
namespace Go.Proofs.Ytckofkdeedbbgaa
open Go.ChangeShapes Go.WideShapes Go.ChangeAt Go.RowKit
set_option linter.unusedVariables false

/-- The value of k bytes from an index on, the highest first. -/
def valW (s : ByteArray) (i : Nat) : Nat → Nat
  | 0 => 0
  | k + 1 => 256 * valW s i k + byteAt s (i + k)
theorem valW_lt (s : ByteArray) (i k : Nat) : valW s i k < 256 ^ k := by
  induction k with
  | zero => simp [valW]
  | succ k ih => have := byteAt_lt s (i + k); simp only [valW, Nat.pow_succ]; omega
theorem valW_small (s : ByteArray) (i k : Nat) (h : k ≤ 4) : valW s i k < 4294967296 :=
  Nat.lt_of_lt_of_le (valW_lt s i k) (Nat.pow_le_pow_right (n := 256) (by decide) h)

def GetOk (s : ByteArray) (a n : Int) : Prop := 1 ≤ n ∧ n ≤ 4 ∧ 0 ≤ a ∧ a + n ≤ s.size
set_option maxHeartbeats 400000 in
theorem get_yes_impl (s : ByteArray) (i k : Nat) (hk1 : 1 ≤ k) (hk4 : k ≤ 4) (hi : i + k ≤ s.size) (hs : s.size ≤ maxLen) (w : World) :
    Calls Try.prog 141 #[.string s, .int .i64 i, .int .i64 k] w fun e w' => e = .returned (.tuple #[.int .i64 (valW s i k : Nat), .bool true]) ∧ w = w' := by
  unfold maxLen at hs
  have hd1 : decide ((k : Int) < 1) = false := by simp; omega
  have hd2 : decide ((4 : Int) < (k : Int)) = false := by simp; omega
  have hd3 : decide ((i : Int) < 0) = false := by simp
  have hd4 : decide ((s.size : Int) - (k : Int) < (i : Int)) = false := by simp; omega
  go_enter Try.func141, Try.ntmps141
  go_wp2
  go_loop [8, 29] (fun n t => ∃ j : Nat, j ≤ k ∧ t = .int .i64 j ∧ n = .int .i64 (valW s i j : Nat)) (fun _ t => k - (intOf t).toNat)
  case atStart => exact ⟨0, by omega, rfl, rfl⟩
  case round =>
    obtain ⟨j, hj, rfl, rfl⟩ := hrel
    by_cases hlt : j < k
    · have hv := valW_small s i j (by omega)
      have hv0 : (0 : Int) ≤ (valW s i j : Int) := by omega
      go_wp2
      refine ⟨⟨j + 1, by omega, by go_num, ?_⟩, by simp [intOf]; omega⟩
      rw [or_byte _ _ (by omega) (UInt8.toNat_lt _), byteAt_of s (i + j) (by omega)]
      rfl
    · have hd : decide (j < k) = false := by simp; omega
      have hjk : j = k := by omega
      subst hjk
      clear hj hlt
      go_wp2
      go_ret2
      exact ⟨rfl, rfl⟩

theorem get_no_impl (s : ByteArray) (a n : Int) (ha : -9223372036854775808 ≤ a ∧ a ≤ 9223372036854775807) (hs : s.size ≤ maxLen) (h : ¬ GetOk s a n) (w : World) :
    Calls Try.prog 141 #[.string s, .int .i64 a, .int .i64 n] w fun e w' => e = .returned (.tuple #[.int .i64 0, .bool false]) ∧ w = w' := by
  unfold maxLen at hs
  unfold GetOk at h
  by_cases h1 : n < 1
  · clear h
    go_enter Try.func141, Try.ntmps141
    go_wp2
    go_ret2
    exact ⟨rfl, rfl⟩
  · have hd1 : decide (n < 1) = false := by simp; omega
    by_cases h2 : 4 < n
    · have hd2 : decide (4 < n) = true := by simp; omega
      clear h h1
      go_enter Try.func141, Try.ntmps141
      go_wp2
      go_ret2
      exact ⟨rfl, rfl⟩
    · have hd2 : decide (4 < n) = false := by simp; omega
      by_cases h3 : a < 0
      · have hd3 : decide (a < 0) = true := by simp; omega
        clear h h1 h2
        go_enter Try.func141, Try.ntmps141
        go_wp2
        go_ret2
        exact ⟨rfl, rfl⟩
      · have hd3 : decide (a < 0) = false := by simp; omega
        have hd4 : decide ((s.size : Int) - n < a) = true := by simp; omega
        clear h
        go_enter Try.func141, Try.ntmps141
        go_wp2
        go_ret2
        exact ⟨rfl, rfl⟩

end Go.Proofs.Ytckofkdeedbbgaa
