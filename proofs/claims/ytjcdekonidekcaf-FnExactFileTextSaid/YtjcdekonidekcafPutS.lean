/- What this text proves: the contract of the model's PutWord. -/
import Derived.Test.YtjcdekonidekcafPut
import Derived.Test.YtjcdekonidekcafBuf
namespace Go.Proofs.Ytjcdekonidekcaf
open Go.ChangeShapes Go.WideShapes Go.ChangeAt Go.RowKit
set_option linter.unusedVariables false

theorem putB_len (n k : Nat) : (putB n k).length = k := by
  induction k with
  | zero => rfl
  | succ k ih => simp [putB, ih]
theorem putB_take (n k m : Nat) (h : m < k) : (putB n k).take (k - m) = (putB n k).take (k - (m + 1)) ++ [byteN n m] := by
  induction k with
  | zero => omega
  | succ k ih =>
    by_cases hm : m = k
    · subst hm
      rw [show m + 1 - m = 1 from by omega, show m + 1 - (m + 1) = 0 from by omega]
      rfl
    · rw [show k + 1 - m = (k - m) + 1 from by omega, show k + 1 - (m + 1) = (k - (m + 1)) + 1 from by omega]
      simp only [putB, List.take_succ_cons, List.cons_append]
      rw [ih (by omega)]

set_option maxHeartbeats 1000000 in
theorem put_spec1_in (n : Nat) (hk : n < 256) (w : World) :
    Calls Try.prog 71 #[.int .i64 n, .int .i64 1] w fun e w' => e = .returned (.string ⟨(putB n 1).toArray⟩) ∧ Below w.heap.size w w' := by
  have hd3 : decide ((n : Int) < 0) = false := by simp
  have hq : ((n : Int) / 256 != 0) = false := by simp; omega
  have e0 := Lib.hid (byteN_val n 0)
  go_enter Try.func71, Try.ntmps71
  go_wp2_with (go_at_call 33; refine (in_yes _ _ _ (by decide) (by decide) _).mono ?_; rintro e w' ⟨rfl, rfl⟩)
  clear hd3 hq
  go_loopw [5, 6] (fun v i wr => ∃ m : Nat, m ≤ 1 ∧ i = .int .i64 ((m : Int) - 1) ∧ OwnB wr w.heap.size v ((putB n 1).take (1 - m)) ∧ Below w.heap.size w wr) (fun _ i _ => (intOf i + 1).toNat)
  case atStart => exact ⟨1, by omega, rfl, OwnB.empty w _ (Nat.le_refl _), (Below.refl _ _).alloc (Nat.le_refl _) _⟩
  case round =>
    obtain ⟨m, hm, hi, hown, hbel⟩ := hrel
    have hsz := hbel.size
    obtain rfl | rfl : m = 0 ∨ m = 1 := by omega
    · obtain rfl : u6 = .int .i64 (-1) := hi
      have hcv := conv_bytes wr _ u5 _ hown
      rw [List.take_of_length_le (by rw [putB_len]; omega)] at hcv
      go_wp2
      go_ret
      exact ⟨rfl, hbel⟩
    · obtain rfl : u6 = .int .i64 0 := hi
      have ht := Lib.hid (putB_take n 1 0 (by decide))
      go_wp2_with (at_builtin; refine app_bytes _ rfl _ _ rfl w.heap.size u5 _ [byteN n 0] rfl hown _ _ 1 1 rfl rfl ?c1 ?c2 hsz ?_)
      case c1 =>
        have h := e0.out
        simp only [List.map_cons, List.map_nil, cellB, h]
        congr 3
        all_goals omega
      case c2 =>
        rw [List.length_take, putB_len]
        simp only [List.length_cons, List.length_nil]
        omega
      intro v' w' hown' hbel' hsz'
      go_wp2
      refine ⟨⟨0, by omega, rfl, by rw [ht.out]; exact hown', hbel.trans hbel'⟩, by simp [intOf]⟩

theorem put_spec1_out (n : Nat) (hk : ¬ n < 256) (w : World) :
    Calls Try.prog 71 #[.int .i64 n, .int .i64 1] w fun e w' => e = .returned (.string ⟨#[]⟩) ∧ Below w.heap.size w w' := by
  have hd3 : decide ((n : Int) < 0) = false := by simp
  have hq : ((n : Int) / 256 != 0) = true := by simp; omega
  go_enter Try.func71, Try.ntmps71
  go_wp2_with (go_at_call 33; refine (in_yes _ _ _ (by decide) (by decide) _).mono ?_; rintro e w' ⟨rfl, rfl⟩)
  go_ret
  exact ⟨rfl, Below.refl _ _⟩

set_option maxHeartbeats 1000000 in
theorem put_spec2_in (n : Nat) (hk : n < 65536) (w : World) :
    Calls Try.prog 71 #[.int .i64 n, .int .i64 2] w fun e w' => e = .returned (.string ⟨(putB n 2).toArray⟩) ∧ Below w.heap.size w w' := by
  have hd3 : decide ((n : Int) < 0) = false := by simp
  have hq : ((n : Int) / 65536 != 0) = false := by simp; omega
  have e0 := Lib.hid (byteN_val n 0)
  have e1 := Lib.hid (byteN_val n 1)
  go_enter Try.func71, Try.ntmps71
  go_wp2_with (go_at_call 33; refine (in_yes _ _ _ (by decide) (by decide) _).mono ?_; rintro e w' ⟨rfl, rfl⟩)
  clear hd3 hq
  go_loopw [5, 6] (fun v i wr => ∃ m : Nat, m ≤ 2 ∧ i = .int .i64 ((m : Int) - 1) ∧ OwnB wr w.heap.size v ((putB n 2).take (2 - m)) ∧ Below w.heap.size w wr) (fun _ i _ => (intOf i + 1).toNat)
  case atStart => exact ⟨2, by omega, rfl, OwnB.empty w _ (Nat.le_refl _), (Below.refl _ _).alloc (Nat.le_refl _) _⟩
  case round =>
    obtain ⟨m, hm, hi, hown, hbel⟩ := hrel
    have hsz := hbel.size
    obtain rfl | rfl | rfl : m = 0 ∨ m = 1 ∨ m = 2 := by omega
    · obtain rfl : u6 = .int .i64 (-1) := hi
      have hcv := conv_bytes wr _ u5 _ hown
      rw [List.take_of_length_le (by rw [putB_len]; omega)] at hcv
      go_wp2
      go_ret
      exact ⟨rfl, hbel⟩
    · obtain rfl : u6 = .int .i64 0 := hi
      have ht := Lib.hid (putB_take n 2 0 (by decide))
      go_wp2_with (at_builtin; refine app_bytes _ rfl _ _ rfl w.heap.size u5 _ [byteN n 0] rfl hown _ _ 1 1 rfl rfl ?c1 ?c2 hsz ?_)
      case c1 =>
        have h := e0.out
        simp only [List.map_cons, List.map_nil, cellB, h]
        congr 3
        all_goals omega
      case c2 =>
        rw [List.length_take, putB_len]
        simp only [List.length_cons, List.length_nil]
        omega
      intro v' w' hown' hbel' hsz'
      go_wp2
      refine ⟨⟨0, by omega, rfl, by rw [ht.out]; exact hown', hbel.trans hbel'⟩, by simp [intOf]⟩
    · obtain rfl : u6 = .int .i64 1 := hi
      have ht := Lib.hid (putB_take n 2 1 (by decide))
      go_wp2_with (at_builtin; refine app_bytes _ rfl _ _ rfl w.heap.size u5 _ [byteN n 1] rfl hown _ _ 1 1 rfl rfl ?c1 ?c2 hsz ?_)
      case c1 =>
        have h := e1.out
        simp only [List.map_cons, List.map_nil, cellB, h]
        congr 3
        all_goals omega
      case c2 =>
        rw [List.length_take, putB_len]
        simp only [List.length_cons, List.length_nil]
        omega
      intro v' w' hown' hbel' hsz'
      go_wp2
      refine ⟨⟨1, by omega, rfl, by rw [ht.out]; exact hown', hbel.trans hbel'⟩, by simp [intOf]⟩

theorem put_spec2_out (n : Nat) (hk : ¬ n < 65536) (w : World) :
    Calls Try.prog 71 #[.int .i64 n, .int .i64 2] w fun e w' => e = .returned (.string ⟨#[]⟩) ∧ Below w.heap.size w w' := by
  have hd3 : decide ((n : Int) < 0) = false := by simp
  have hq : ((n : Int) / 65536 != 0) = true := by simp; omega
  go_enter Try.func71, Try.ntmps71
  go_wp2_with (go_at_call 33; refine (in_yes _ _ _ (by decide) (by decide) _).mono ?_; rintro e w' ⟨rfl, rfl⟩)
  go_ret
  exact ⟨rfl, Below.refl _ _⟩

set_option maxHeartbeats 1000000 in
theorem put_spec3_in (n : Nat) (hk : n < 16777216) (w : World) :
    Calls Try.prog 71 #[.int .i64 n, .int .i64 3] w fun e w' => e = .returned (.string ⟨(putB n 3).toArray⟩) ∧ Below w.heap.size w w' := by
  have hd3 : decide ((n : Int) < 0) = false := by simp
  have hq : ((n : Int) / 16777216 != 0) = false := by simp; omega
  have e0 := Lib.hid (byteN_val n 0)
  have e1 := Lib.hid (byteN_val n 1)
  have e2 := Lib.hid (byteN_val n 2)
  go_enter Try.func71, Try.ntmps71
  go_wp2_with (go_at_call 33; refine (in_yes _ _ _ (by decide) (by decide) _).mono ?_; rintro e w' ⟨rfl, rfl⟩)
  clear hd3 hq
  go_loopw [5, 6] (fun v i wr => ∃ m : Nat, m ≤ 3 ∧ i = .int .i64 ((m : Int) - 1) ∧ OwnB wr w.heap.size v ((putB n 3).take (3 - m)) ∧ Below w.heap.size w wr) (fun _ i _ => (intOf i + 1).toNat)
  case atStart => exact ⟨3, by omega, rfl, OwnB.empty w _ (Nat.le_refl _), (Below.refl _ _).alloc (Nat.le_refl _) _⟩
  case round =>
    obtain ⟨m, hm, hi, hown, hbel⟩ := hrel
    have hsz := hbel.size
    obtain rfl | rfl | rfl | rfl : m = 0 ∨ m = 1 ∨ m = 2 ∨ m = 3 := by omega
    · obtain rfl : u6 = .int .i64 (-1) := hi
      have hcv := conv_bytes wr _ u5 _ hown
      rw [List.take_of_length_le (by rw [putB_len]; omega)] at hcv
      go_wp2
      go_ret
      exact ⟨rfl, hbel⟩
    · obtain rfl : u6 = .int .i64 0 := hi
      have ht := Lib.hid (putB_take n 3 0 (by decide))
      go_wp2_with (at_builtin; refine app_bytes _ rfl _ _ rfl w.heap.size u5 _ [byteN n 0] rfl hown _ _ 1 1 rfl rfl ?c1 ?c2 hsz ?_)
      case c1 =>
        have h := e0.out
        simp only [List.map_cons, List.map_nil, cellB, h]
        congr 3
        all_goals omega
      case c2 =>
        rw [List.length_take, putB_len]
        simp only [List.length_cons, List.length_nil]
        omega
      intro v' w' hown' hbel' hsz'
      go_wp2
      refine ⟨⟨0, by omega, rfl, by rw [ht.out]; exact hown', hbel.trans hbel'⟩, by simp [intOf]⟩
    · obtain rfl : u6 = .int .i64 1 := hi
      have ht := Lib.hid (putB_take n 3 1 (by decide))
      go_wp2_with (at_builtin; refine app_bytes _ rfl _ _ rfl w.heap.size u5 _ [byteN n 1] rfl hown _ _ 1 1 rfl rfl ?c1 ?c2 hsz ?_)
      case c1 =>
        have h := e1.out
        simp only [List.map_cons, List.map_nil, cellB, h]
        congr 3
        all_goals omega
      case c2 =>
        rw [List.length_take, putB_len]
        simp only [List.length_cons, List.length_nil]
        omega
      intro v' w' hown' hbel' hsz'
      go_wp2
      refine ⟨⟨1, by omega, rfl, by rw [ht.out]; exact hown', hbel.trans hbel'⟩, by simp [intOf]⟩
    · obtain rfl : u6 = .int .i64 2 := hi
      have ht := Lib.hid (putB_take n 3 2 (by decide))
      go_wp2_with (at_builtin; refine app_bytes _ rfl _ _ rfl w.heap.size u5 _ [byteN n 2] rfl hown _ _ 1 1 rfl rfl ?c1 ?c2 hsz ?_)
      case c1 =>
        have h := e2.out
        simp only [List.map_cons, List.map_nil, cellB, h]
        congr 3
        all_goals omega
      case c2 =>
        rw [List.length_take, putB_len]
        simp only [List.length_cons, List.length_nil]
        omega
      intro v' w' hown' hbel' hsz'
      go_wp2
      refine ⟨⟨2, by omega, rfl, by rw [ht.out]; exact hown', hbel.trans hbel'⟩, by simp [intOf]⟩

theorem put_spec3_out (n : Nat) (hk : ¬ n < 16777216) (w : World) :
    Calls Try.prog 71 #[.int .i64 n, .int .i64 3] w fun e w' => e = .returned (.string ⟨#[]⟩) ∧ Below w.heap.size w w' := by
  have hd3 : decide ((n : Int) < 0) = false := by simp
  have hq : ((n : Int) / 16777216 != 0) = true := by simp; omega
  go_enter Try.func71, Try.ntmps71
  go_wp2_with (go_at_call 33; refine (in_yes _ _ _ (by decide) (by decide) _).mono ?_; rintro e w' ⟨rfl, rfl⟩)
  go_ret
  exact ⟨rfl, Below.refl _ _⟩

set_option maxHeartbeats 1000000 in
theorem put_spec4_in (n : Nat) (hk : n < 4294967296) (w : World) :
    Calls Try.prog 71 #[.int .i64 n, .int .i64 4] w fun e w' => e = .returned (.string ⟨(putB n 4).toArray⟩) ∧ Below w.heap.size w w' := by
  have hd3 : decide ((n : Int) < 0) = false := by simp
  have hq : ((n : Int) / 4294967296 != 0) = false := by simp; omega
  have e0 := Lib.hid (byteN_val n 0)
  have e1 := Lib.hid (byteN_val n 1)
  have e2 := Lib.hid (byteN_val n 2)
  have e3 := Lib.hid (byteN_val n 3)
  go_enter Try.func71, Try.ntmps71
  go_wp2_with (go_at_call 33; refine (in_yes _ _ _ (by decide) (by decide) _).mono ?_; rintro e w' ⟨rfl, rfl⟩)
  clear hd3 hq
  go_loopw [5, 6] (fun v i wr => ∃ m : Nat, m ≤ 4 ∧ i = .int .i64 ((m : Int) - 1) ∧ OwnB wr w.heap.size v ((putB n 4).take (4 - m)) ∧ Below w.heap.size w wr) (fun _ i _ => (intOf i + 1).toNat)
  case atStart => exact ⟨4, by omega, rfl, OwnB.empty w _ (Nat.le_refl _), (Below.refl _ _).alloc (Nat.le_refl _) _⟩
  case round =>
    obtain ⟨m, hm, hi, hown, hbel⟩ := hrel
    have hsz := hbel.size
    obtain rfl | rfl | rfl | rfl | rfl : m = 0 ∨ m = 1 ∨ m = 2 ∨ m = 3 ∨ m = 4 := by omega
    · obtain rfl : u6 = .int .i64 (-1) := hi
      have hcv := conv_bytes wr _ u5 _ hown
      rw [List.take_of_length_le (by rw [putB_len]; omega)] at hcv
      go_wp2
      go_ret
      exact ⟨rfl, hbel⟩
    · obtain rfl : u6 = .int .i64 0 := hi
      have ht := Lib.hid (putB_take n 4 0 (by decide))
      go_wp2_with (at_builtin; refine app_bytes _ rfl _ _ rfl w.heap.size u5 _ [byteN n 0] rfl hown _ _ 1 1 rfl rfl ?c1 ?c2 hsz ?_)
      case c1 =>
        have h := e0.out
        simp only [List.map_cons, List.map_nil, cellB, h]
        congr 3
        all_goals omega
      case c2 =>
        rw [List.length_take, putB_len]
        simp only [List.length_cons, List.length_nil]
        omega
      intro v' w' hown' hbel' hsz'
      go_wp2
      refine ⟨⟨0, by omega, rfl, by rw [ht.out]; exact hown', hbel.trans hbel'⟩, by simp [intOf]⟩
    · obtain rfl : u6 = .int .i64 1 := hi
      have ht := Lib.hid (putB_take n 4 1 (by decide))
      go_wp2_with (at_builtin; refine app_bytes _ rfl _ _ rfl w.heap.size u5 _ [byteN n 1] rfl hown _ _ 1 1 rfl rfl ?c1 ?c2 hsz ?_)
      case c1 =>
        have h := e1.out
        simp only [List.map_cons, List.map_nil, cellB, h]
        congr 3
        all_goals omega
      case c2 =>
        rw [List.length_take, putB_len]
        simp only [List.length_cons, List.length_nil]
        omega
      intro v' w' hown' hbel' hsz'
      go_wp2
      refine ⟨⟨1, by omega, rfl, by rw [ht.out]; exact hown', hbel.trans hbel'⟩, by simp [intOf]⟩
    · obtain rfl : u6 = .int .i64 2 := hi
      have ht := Lib.hid (putB_take n 4 2 (by decide))
      go_wp2_with (at_builtin; refine app_bytes _ rfl _ _ rfl w.heap.size u5 _ [byteN n 2] rfl hown _ _ 1 1 rfl rfl ?c1 ?c2 hsz ?_)
      case c1 =>
        have h := e2.out
        simp only [List.map_cons, List.map_nil, cellB, h]
        congr 3
        all_goals omega
      case c2 =>
        rw [List.length_take, putB_len]
        simp only [List.length_cons, List.length_nil]
        omega
      intro v' w' hown' hbel' hsz'
      go_wp2
      refine ⟨⟨2, by omega, rfl, by rw [ht.out]; exact hown', hbel.trans hbel'⟩, by simp [intOf]⟩
    · obtain rfl : u6 = .int .i64 3 := hi
      have ht := Lib.hid (putB_take n 4 3 (by decide))
      go_wp2_with (at_builtin; refine app_bytes _ rfl _ _ rfl w.heap.size u5 _ [byteN n 3] rfl hown _ _ 1 1 rfl rfl ?c1 ?c2 hsz ?_)
      case c1 =>
        have h := e3.out
        simp only [List.map_cons, List.map_nil, cellB, h]
        congr 3
        all_goals omega
      case c2 =>
        rw [List.length_take, putB_len]
        simp only [List.length_cons, List.length_nil]
        omega
      intro v' w' hown' hbel' hsz'
      go_wp2
      refine ⟨⟨3, by omega, rfl, by rw [ht.out]; exact hown', hbel.trans hbel'⟩, by simp [intOf]⟩

theorem put_spec4_out (n : Nat) (hk : ¬ n < 4294967296) (w : World) :
    Calls Try.prog 71 #[.int .i64 n, .int .i64 4] w fun e w' => e = .returned (.string ⟨#[]⟩) ∧ Below w.heap.size w w' := by
  have hd3 : decide ((n : Int) < 0) = false := by simp
  have hq : ((n : Int) / 4294967296 != 0) = true := by simp; omega
  go_enter Try.func71, Try.ntmps71
  go_wp2_with (go_at_call 33; refine (in_yes _ _ _ (by decide) (by decide) _).mono ?_; rintro e w' ⟨rfl, rfl⟩)
  go_ret
  exact ⟨rfl, Below.refl _ _⟩

def PutOk (n k : Int) : Prop := 1 ≤ k ∧ k ≤ 4 ∧ 0 ≤ n ∧ n < 256 ^ k.toNat

theorem put_impl_yes (n k : Nat) (h1 : 1 ≤ k) (h4 : k ≤ 4) (hn : n < 256 ^ k) (w : World) :
    Calls Try.prog 72 #[.int .i64 n, .int .i64 k] w fun e w' => e = .returned (.string ⟨(putB n k).toArray⟩) ∧ Below w.heap.size w w' := by
  obtain rfl | rfl | rfl | rfl : k = 1 ∨ k = 2 ∨ k = 3 ∨ k = 4 := by omega
  · exact put_impl1_in n (by omega) (by simpa using hn) w
  · exact put_impl2_in n (by omega) (by simpa using hn) w
  · exact put_impl3_in n (by omega) (by simpa using hn) w
  · exact put_impl4_in n (by omega) (by simpa using hn) w
theorem put_spec_yes (n k : Nat) (h1 : 1 ≤ k) (h4 : k ≤ 4) (hn : n < 256 ^ k) (w : World) :
    Calls Try.prog 71 #[.int .i64 n, .int .i64 k] w fun e w' => e = .returned (.string ⟨(putB n k).toArray⟩) ∧ Below w.heap.size w w' := by
  obtain rfl | rfl | rfl | rfl : k = 1 ∨ k = 2 ∨ k = 3 ∨ k = 4 := by omega
  · exact put_spec1_in n (by simpa using hn) w
  · exact put_spec2_in n (by simpa using hn) w
  · exact put_spec3_in n (by simpa using hn) w
  · exact put_spec4_in n (by simpa using hn) w

theorem put_impl_no (n k : Int) (h : ¬ PutOk n k) (w : World) :
    Calls Try.prog 72 #[.int .i64 n, .int .i64 k] w fun e w' => e = .returned (.string ⟨#[]⟩) ∧ Below w.heap.size w w' := by
  unfold PutOk at h
  by_cases h1 : k < 1
  · have hd1 : decide (k < 1) = true := by simp; omega
    clear h h1
    go_enter Try.func72, Try.ntmps72
    go_wp2
    go_ret
    exact ⟨rfl, Below.refl _ _⟩
  · have hd1 : decide (k < 1) = false := by simp; omega
    by_cases h2 : 4 < k
    · have hd2 : decide (4 < k) = true := by simp; omega
      clear h h1 h2
      go_enter Try.func72, Try.ntmps72
      go_wp2
      go_ret
      exact ⟨rfl, Below.refl _ _⟩
    · have hd2 : decide (4 < k) = false := by simp; omega
      by_cases h3 : n < 0
      · have hd3 : decide (n < 0) = true := by simp; omega
        clear h h1 h2 h3
        go_enter Try.func72, Try.ntmps72
        go_wp2
        go_ret
        exact ⟨rfl, Below.refl _ _⟩
      · have hd3 : decide (n < 0) = false := by simp; omega
        by_cases h4 : 4294967295 < n
        · have hd4 : decide (4294967295 < n) = true := by simp; omega
          clear h h1 h2 h3 h4
          go_enter Try.func72, Try.ntmps72
          go_wp2
          go_ret
          exact ⟨rfl, Below.refl _ _⟩
        · obtain ⟨m, rfl⟩ := Int.eq_ofNat_of_zero_le (show 0 ≤ n by omega)
          clear hd1 hd2 hd3
          obtain rfl | rfl | rfl | rfl : k = 1 ∨ k = 2 ∨ k = 3 ∨ k = 4 := by omega
          · exact put_impl1_out m (by omega) (fun hm => h ⟨by omega, by omega, by omega, by simp; omega⟩) w
          · exact put_impl2_out m (by omega) (fun hm => h ⟨by omega, by omega, by omega, by simp; omega⟩) w
          · exact put_impl3_out m (by omega) (fun hm => h ⟨by omega, by omega, by omega, by simp; omega⟩) w
          · exact absurd ⟨by omega, by omega, by omega, by simp; omega⟩ h

theorem put_spec_no (n k : Int) (h : ¬ PutOk n k) (w : World) :
    Calls Try.prog 71 #[.int .i64 n, .int .i64 k] w fun e w' => e = .returned (.string ⟨#[]⟩) ∧ Below w.heap.size w w' := by
  unfold PutOk at h
  by_cases h1 : 1 ≤ k ∧ k ≤ 4
  · by_cases h3 : n < 0
    · obtain ⟨h1, h2⟩ := h1
      have hd3 : decide (n < 0) = true := by simp; omega
      clear h h3
      go_enter Try.func71, Try.ntmps71
      go_wp2_with (go_at_call 33; refine (in_yes _ _ _ h1 h2 _).mono ?_; rintro e w' ⟨rfl, rfl⟩)
      go_ret
      exact ⟨rfl, Below.refl _ _⟩
    · obtain ⟨m, rfl⟩ := Int.eq_ofNat_of_zero_le (show 0 ≤ n by omega)
      obtain rfl | rfl | rfl | rfl : k = 1 ∨ k = 2 ∨ k = 3 ∨ k = 4 := by omega
      · exact put_spec1_out m (fun hm => h ⟨by omega, by omega, by omega, by simp; omega⟩) w
      · exact put_spec2_out m (fun hm => h ⟨by omega, by omega, by omega, by simp; omega⟩) w
      · exact put_spec3_out m (fun hm => h ⟨by omega, by omega, by omega, by simp; omega⟩) w
      · exact put_spec4_out m (fun hm => h ⟨by omega, by omega, by omega, by simp; omega⟩) w
  · have H := Lib.hid h1
    clear h h1
    go_enter Try.func71, Try.ntmps71
    go_wp2_with (go_at_call 33; refine (in_no _ _ _ H.out _).mono ?_; rintro e w' ⟨rfl, rfl⟩)
    go_ret
    exact ⟨rfl, Below.refl _ _⟩

/-- What PutWord returns. -/
noncomputable def putS (n k : Int) : ByteArray := open Classical in if PutOk n k then ⟨(putB n.toNat k.toNat).toArray⟩ else ⟨#[]⟩
theorem put_impl (n k : Int) (w : World) :
    Calls Try.prog 72 #[.int .i64 n, .int .i64 k] w fun e w' => e = .returned (.string (putS n k)) ∧ Below w.heap.size w w' := by
  by_cases h : PutOk n k
  · unfold putS
    rw [if_pos h]
    obtain ⟨m, rfl⟩ := Int.eq_ofNat_of_zero_le h.2.2.1
    obtain ⟨j, rfl⟩ := Int.eq_ofNat_of_zero_le (show 0 ≤ k by have := h.1; omega)
    have h4 : (m : Int) < ((256 ^ j : Nat) : Int) := by have h4 := h.2.2.2; rw [Int.toNat_natCast] at h4; rw [Int.natCast_pow]; exact h4
    exact put_impl_yes m j (by have := h.1; omega) (by have := h.2.1; omega) (by omega) w
  · unfold putS
    rw [if_neg h]
    exact put_impl_no n k h w
theorem put_spec (n k : Int) (w : World) :
    Calls Try.prog 71 #[.int .i64 n, .int .i64 k] w fun e w' => e = .returned (.string (putS n k)) ∧ Below w.heap.size w w' := by
  by_cases h : PutOk n k
  · unfold putS
    rw [if_pos h]
    obtain ⟨m, rfl⟩ := Int.eq_ofNat_of_zero_le h.2.2.1
    obtain ⟨j, rfl⟩ := Int.eq_ofNat_of_zero_le (show 0 ≤ k by have := h.1; omega)
    have h4 : (m : Int) < ((256 ^ j : Nat) : Int) := by have h4 := h.2.2.2; rw [Int.toNat_natCast] at h4; rw [Int.natCast_pow]; exact h4
    exact put_spec_yes m j (by have := h.1; omega) (by have := h.2.1; omega) (by omega) w
  · unfold putS
    rw [if_neg h]
    exact put_spec_no n k h w

end Go.Proofs.Ytjcdekonidekcaf
