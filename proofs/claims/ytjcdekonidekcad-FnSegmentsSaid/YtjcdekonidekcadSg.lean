/- What this text proves: the contracts of CountSegments and SegmentOf, of the program and the model, and of the program's isFile and isSegment; the laws of both. -/
import Derived.Test.YtjcdekonidekcadOrd
import Derived.Test.YtjcdekonidekcadLaw
import Derived.Laws.Strings2
namespace Go.Proofs.Ytjcdekonidekcad
open Go.ChangeShapes Go.WideShapes Go.ChangeAt Go.RowKit
set_option linter.unusedVariables false

/-- The number of segments of a file of n bytes. -/
def cntS (n : Int) : Int := if 0 ≤ n ∧ n ≤ 600 then (n + 23) / 24 else 0
theorem cntS_in {n : Int} (h : 0 ≤ n ∧ n ≤ 600) : cntS n = (n + 23) / 24 := if_pos h
theorem cntS_out {n : Int} (h : ¬ (0 ≤ n ∧ n ≤ 600)) : cntS n = 0 := if_neg h
theorem cntS_bd (n : Int) : 0 ≤ cntS n ∧ cntS n ≤ 25 := by unfold cntS; split <;> omega
theorem ret_s {a b : ByteArray} (h : a = b) : Ending.returned (.string a) = .returned (.string b) := by rw [h]
theorem cnt_impl (n : Int) (w : World) :
    Calls Try.prog 9 #[.int .i64 n] w fun e w' => e = .returned (.int .i64 (cntS n)) ∧ w = w' := by
  have H := Lib.hid (iw_any n 0 600)
  by_cases h : 0 ≤ n ∧ n ≤ 600
  · rw [decide_eq_true h] at H
    have HV := Lib.hid (cntS_in h)
    obtain ⟨h1, h2⟩ := h
    go_enter Try.func9, Try.ntmps9
    go_wp2_with fail
    refine (H.out _).mono ?_
    rintro e w' ⟨rfl, rfl⟩
    go_wp2
    go_ret
    exact ⟨ret_i (by rw [HV.out]; omega), rfl⟩
  · rw [decide_eq_false h] at H
    have HV := Lib.hid (cntS_out h)
    clear h
    go_enter Try.func9, Try.ntmps9
    go_wp2_with fail
    refine (H.out _).mono ?_
    rintro e w' ⟨rfl, rfl⟩
    go_wp2
    go_ret
    exact ⟨ret_i (by rw [HV.out]), rfl⟩
theorem cnt_spec (n : Int) (w : World) :
    Calls Try.prog 29 #[.int .i64 n] w fun e w' => e = .returned (.int .i64 (cntS n)) ∧ w = w' := by
  have H := Lib.hid (in_anyP n 0 600)
  by_cases h : 0 ≤ n ∧ n ≤ 600
  · rw [decide_eq_true h] at H
    have HV := Lib.hid (cntS_in h)
    obtain ⟨h1, h2⟩ := h
    go_enter Try.func29, Try.ntmps29
    go_wp2_with fail
    refine (H.out _).mono ?_
    rintro e w' ⟨rfl, rfl⟩
    go_wp2
    go_ret
    exact ⟨ret_i (by rw [HV.out]; omega), rfl⟩
  · rw [decide_eq_false h] at H
    have HV := Lib.hid (cntS_out h)
    clear h
    go_enter Try.func29, Try.ntmps29
    go_wp2_with fail
    refine (H.out _).mono ?_
    rintro e w' ⟨rfl, rfl⟩
    go_wp2
    go_ret
    exact ⟨ret_i (by rw [HV.out]), rfl⟩
theorem law_countsegments (n : Int) (_ : -9223372036854775808 ≤ n ∧ n ≤ 9223372036854775807) (w : World) :
    Calls Try.prog 5 #[.int .i64 n] w fun e w' => e = .returned (.bool true) ∧ Below w.heap.size w w' := by
  have H1 := Lib.hid (cnt_spec n)
  have H2 := Lib.hid (cnt_impl n)
  have hB : (cntS n != cntS n) = false := by simp
  generalize cntS n = V at *
  go_enter Try.func5, Try.ntmps5
  go_wp2_with fail
  refine (H1.out _).mono ?_
  rintro e w' ⟨rfl, rfl⟩
  go_wp2_with fail
  refine (H2.out _).mono ?_
  rintro e w' ⟨rfl, rfl⟩
  go_wp2
  go_ret
  exact ⟨rfl, Below.refl _ _⟩
theorem fl_impl (n : Int) (w : World) :
    Calls Try.prog 36 #[.int .i64 n] w fun e w' => e = .returned (.bool (decide (0 ≤ n ∧ n ≤ 7))) ∧ w = w' := by
  have H := Lib.hid (iw_any n 0 7)
  generalize decide (0 ≤ n ∧ n ≤ 7) = B at *
  go_enter Try.func36, Try.ntmps36
  go_wp2_with fail
  refine (H.out _).mono ?_
  rintro e w' ⟨rfl, rfl⟩
  go_wp2
  go_ret
  exact ⟨rfl, rfl⟩
def SegOk (k n : Int) : Prop := 0 ≤ k ∧ k ≤ cntS n - 1
instance (k n : Int) : Decidable (SegOk k n) := by unfold SegOk; infer_instance
theorem SegOk.low {k n : Int} (h : SegOk k n) : 0 ≤ n ∧ n ≤ 600 ∧ 24 * k < n ∧ k ≤ 24 := by
  obtain ⟨h1, h2⟩ := h
  unfold cntS at h2
  split at h2 <;> omega
theorem isg_impl (k n : Int) (w : World) :
    Calls Try.prog 35 #[.int .i64 k, .int .i64 n] w fun e w' => e = .returned (.bool (decide (SegOk k n))) ∧ w = w' := by
  have H0 := Lib.hid (cnt_impl n)
  have H := Lib.hid (iw_any k 0 (cntS n - 1))
  obtain ⟨b1, b2⟩ := cntS_bd n
  have HE := Lib.hid (show decide (SegOk k n) = decide (0 ≤ k ∧ k ≤ cntS n - 1) from rfl)
  generalize cntS n = V at *
  generalize decide (0 ≤ k ∧ k ≤ V - 1) = B at *
  go_enter Try.func35, Try.ntmps35
  go_wp2_with fail
  refine (H0.out _).mono ?_
  rintro e w' ⟨rfl, rfl⟩
  go_wp2_with fail
  refine (H.out _).mono ?_
  rintro e w' ⟨rfl, rfl⟩
  go_wp2
  go_ret
  exact ⟨by rw [HE.out]; rfl, rfl⟩
/-- Segment k of a file. -/
noncomputable def segS (d : ByteArray) (k : Int) : ByteArray := if SegOk k d.size then d.extract (24 * k.toNat) (24 * k.toNat + 24) else ⟨#[]⟩
theorem seg_cut (s : ByteArray) (k m : Nat) (hm : min (s.size - k) 24 = m) (hk : k ≤ s.size) : (s.extract k s.size).extract 0 m = s.extract k (k + 24) := by
  apply ByteArray.ext
  apply Array.ext
  · simp [ByteArray.data_extract]; omega
  · intro i h1 h2
    simp [ByteArray.data_extract] at h1 h2 ⊢
theorem seg_min (s : ByteArray) (a b m : Nat) (hm : min s.size b = m) : s.extract a m = s.extract a b := by
  apply ByteArray.ext
  apply Array.ext
  · simp [ByteArray.data_extract]; omega
  · intro i h1 h2
    simp [ByteArray.data_extract] at h1 h2 ⊢
theorem segS_size (d : ByteArray) (k : Int) : (segS d k).size ≤ 24 := by
  unfold segS
  split
  · simp; omega
  · exact Nat.zero_le _
theorem slice_head (s : ByteArray) (m : Nat) (hm : m ≤ s.size) : ∀ W : World, (Instr.slice 9 (.string s) none (some (.int .i64 (m : Int))) none).run Try.prog W = .ok (.string (s.extract 0 m)) W := fun W => by
  have h := run_slice_string_to_if W 9 s .i64 (m : Int) Try.underlying9
  rw [if_pos (by omega), show ((m : Int)).toNat = m from by omega] at h
  exact h
theorem slice_tail (s : ByteArray) (m : Nat) (hm : m ≤ s.size) : ∀ W : World, (Instr.slice 9 (.string s) (some (.int .i64 (m : Int))) none none).run Try.prog W = .ok (.string (s.extract m s.size)) W := fun W => by
  have h := run_slice_string_from_if W 9 s .i64 (m : Int) Try.underlying9
  rw [if_pos (by omega), show ((m : Int)).toNat = m from by omega] at h
  exact h
theorem slice_mid (s : ByteArray) (a b : Nat) (hab : a ≤ b) (hb : b ≤ s.size) : ∀ W : World, (Instr.slice 9 (.string s) (some (.int .i64 (a : Int))) (some (.int .i64 (b : Int))) none).run Try.prog W = .ok (.string (s.extract a b)) W := fun W => by
  have h := run_slice_string W 9 s .i64 .i64 (a : Int) (b : Int) Try.underlying9 (by omega) (by omega) (by omega)
  simpa using h
set_option maxHeartbeats 1000000 in
theorem seg_impl (d : ByteArray) (k : Int) (hd : d.size ≤ 1048576) (w : World) :
    Calls Try.prog 10 #[.string d, .int .i64 k] w fun e w' => e = .returned (.string (segS d k)) ∧ w = w' := by
  have H := Lib.hid (isg_impl k d.size)
  by_cases h : SegOk k d.size
  · rw [decide_eq_true h] at H
    obtain ⟨_, l2, l3, l4⟩ := h.low
    obtain ⟨j, rfl⟩ := Int.eq_ofNat_of_zero_le h.1
    have HV := Lib.hid (show segS d (j : Int) = d.extract (24 * j) (24 * j + 24) from if_pos h)
    have hj : 24 * j ≤ d.size := by omega
    clear h l3
    rw [Nat.mul_comm 24 j] at HV hj
    by_cases h24 : 24 < d.size - j * 24
    · have h25 : (24 : Int) < ((d.size - j * 24 : Nat) : Int) := by omega
      have HC := Lib.hid (seg_cut d (j * 24) 24 (by omega) hj)
      clear h24
      go_enter Try.func10, Try.ntmps10
      go_wp2_with fail
      refine (H.out _).mono ?_
      rintro e w' ⟨rfl, rfl⟩
      go_wp2
      go_ret
      exact ⟨ret_s (HC.out.trans HV.out.symm), rfl⟩
    · have h25 : ((d.size - j * 24 : Nat) : Int) ≤ (24 : Int) := by omega
      have HC := Lib.hid (seg_cut d (j * 24) (d.size - j * 24) (by omega) hj)
      clear h24
      go_enter Try.func10, Try.ntmps10
      go_wp2_with fail
      refine (H.out _).mono ?_
      rintro e w' ⟨rfl, rfl⟩
      go_wp2
      go_ret
      exact ⟨ret_s (HC.out.trans HV.out.symm), rfl⟩
  · rw [decide_eq_false h] at H
    have HV := Lib.hid (show segS d k = ⟨#[]⟩ from if_neg h)
    clear h
    go_enter Try.func10, Try.ntmps10
    go_wp2_with fail
    refine (H.out _).mono ?_
    rintro e w' ⟨rfl, rfl⟩
    go_wp2
    go_ret
    exact ⟨by rw [HV.out]; rfl, rfl⟩
set_option maxRecDepth 20000 in
set_option maxHeartbeats 1000000 in
theorem seg_spec (d : ByteArray) (k : Int) (hd : d.size ≤ 1048576) (w : World) :
    Calls Try.prog 30 #[.string d, .int .i64 k] w fun e w' => e = .returned (.string (segS d k)) ∧ w = w' := by
  by_cases h6 : d.size ≤ 600
  · have hd0 : decide ((600 : Int) < (d.size : Int)) = false := by simp; omega
    have hd1 : decide (600 < d.size) = false := by simp; omega
    have H0 := Lib.hid (cnt_spec d.size)
    have H := Lib.hid (in_anyP k 0 (cntS d.size - 1))
    obtain ⟨b1, b2⟩ := cntS_bd d.size
    by_cases h : SegOk k d.size
    · have h' : 0 ≤ k ∧ k ≤ cntS d.size - 1 := h
      rw [decide_eq_true h'] at H
      obtain ⟨_, l2, l3, l4⟩ := h.low
      obtain ⟨j, rfl⟩ := Int.eq_ofNat_of_zero_le h.1
      have HV := Lib.hid (show segS d (j : Int) = d.extract (24 * j) (24 * j + 24) from if_pos h)
      generalize cntS d.size = V at *
      clear h h'
      have hjd : 24 * j ≤ d.size := by omega
      by_cases h24 : d.size ≤ 24 * j + 24
      · have h25 : (d.size : Int) ≤ 24 * ((j : Int) + 1) := by omega
        have HC := Lib.hid (seg_min d (24 * j) (24 * j + 24) d.size (by omega))
        have s1 : ∀ W : World, (Instr.slice 9 (.string d) (some (.int .i64 (24 * (j : Int)))) (some (.int .i64 (d.size : Int))) none).run Try.prog W = .ok (.string (d.extract (24 * j) d.size)) W := fun W => by
          have h := slice_mid d (24 * j) d.size hjd (Nat.le_refl _) W
          rwa [show ((24 * j : Nat) : Int) = 24 * (j : Int) by omega] at h
        clear h24
        go_enter Try.func30, Try.ntmps30
        go_wp2_with fail
        refine (H0.out _).mono ?_
        rintro e w' ⟨rfl, rfl⟩
        go_wp2_with fail
        refine (H.out _).mono ?_
        rintro e w' ⟨rfl, rfl⟩
        go_wp2
        go_ret
        exact ⟨ret_s (HC.out.trans HV.out.symm), rfl⟩
      · have h25 : 24 * ((j : Int) + 1) < (d.size : Int) := by omega
        have s1 : ∀ W : World, (Instr.slice 9 (.string d) (some (.int .i64 (24 * (j : Int)))) (some (.int .i64 (24 * ((j : Int) + 1)))) none).run Try.prog W = .ok (.string (d.extract (24 * j) (24 * j + 24))) W := fun W => by
          have h := slice_mid d (24 * j) (24 * j + 24) (by omega) (by omega) W
          rwa [show ((24 * j : Nat) : Int) = 24 * (j : Int) by omega, show ((24 * j + 24 : Nat) : Int) = 24 * ((j : Int) + 1) by omega] at h
        clear h24
        go_enter Try.func30, Try.ntmps30
        go_wp2_with fail
        refine (H0.out _).mono ?_
        rintro e w' ⟨rfl, rfl⟩
        go_wp2_with fail
        refine (H.out _).mono ?_
        rintro e w' ⟨rfl, rfl⟩
        go_wp2
        go_ret
        exact ⟨ret_s HV.out.symm, rfl⟩
    · have h' : ¬ (0 ≤ k ∧ k ≤ cntS d.size - 1) := h
      rw [decide_eq_false h'] at H
      have HV := Lib.hid (show segS d k = ⟨#[]⟩ from if_neg h)
      generalize cntS d.size = V at *
      clear h h'
      go_enter Try.func30, Try.ntmps30
      go_wp2_with fail
      refine (H0.out _).mono ?_
      rintro e w' ⟨rfl, rfl⟩
      go_wp2_with fail
      refine (H.out _).mono ?_
      rintro e w' ⟨rfl, rfl⟩
      go_wp2
      go_ret
      exact ⟨by rw [HV.out]; rfl, rfl⟩
  · have hd0 : decide ((600 : Int) < (d.size : Int)) = true := by simp; omega
    have hd1 : decide (600 < d.size) = true := by simp; omega
    have HV := Lib.hid (show segS d k = ⟨#[]⟩ from if_neg (fun h => by have := h.low; omega))
    clear h6
    go_enter Try.func30, Try.ntmps30
    go_wp2
    go_ret
    exact ⟨by rw [HV.out]; rfl, rfl⟩
theorem law_segmentof (d : ByteArray) (k : Int) (hs : d.size ≤ maxLen) (_ : -9223372036854775808 ≤ k ∧ k ≤ 9223372036854775807) (w : World) :
    Calls Try.prog 6 #[.string d, .int .i64 k] w fun e w' => e = .returned (.bool true) ∧ Below w.heap.size w w' := by
  by_cases hL : d.size ≤ 1048576
  · have H1 := Lib.hid (seg_spec d k hL)
    have H2 := Lib.hid (seg_impl d k hL)
    have hd : decide (1048576 < d.size) = false := by simp; omega
    have hd' : decide ((1048576 : Int) < (d.size : Int)) = false := by simp; omega
    have hself : ((segS d k).toList == (segS d k).toList) = true := beq_self_eq_true _
    generalize segS d k = V at *
    clear hL
    go_enter Try.func6, Try.ntmps6
    go_wp2_with fail
    refine (H1.out _).mono ?_
    rintro e w' ⟨rfl, rfl⟩
    go_wp2_with fail
    refine (H2.out _).mono ?_
    rintro e w' ⟨rfl, rfl⟩
    go_wp2
    go_ret
    exact ⟨rfl, Below.refl _ _⟩
  · have hd : decide (1048576 < d.size) = true := by simp; omega
    have hd' : decide ((1048576 : Int) < (d.size : Int)) = true := by simp; omega
    have hs' : d.size ≤ 9223372036854775807 := by unfold maxLen at hs; omega
    clear hL
    go_enter Try.func6, Try.ntmps6
    go_wp2
    go_ret
    exact ⟨rfl, Below.refl _ _⟩
end Go.Proofs.Ytjcdekonidekcad
