/- What this text proves: the contracts of the program's own reasons not to take a command. -/
import Derived.Test.YtmmedhjmilgnbaaDoorTcM
import Derived.Test.YtmmedhjmilgnbaaDoorSents
import Derived.Test.YtmmedhjmilgnbaaDoorErrIs
namespace Go.Proofs.YtmmedhjmilgnbaaDoor
open Go.ChangeShapes Go.WideShapes Go.ChangeAt Go.RowKit
set_option linter.unusedVariables false

set_option maxHeartbeats 1000000 in
theorem rf_ign1 (x : Int) (q : Bool) (t n : Int) (hx : 0 ≤ x ∧ x ≤ 255) (hn : 0 ≤ n ∧ n ≤ 255) (a0 a1 a2 : Addr) (w : World) (hS : Sents w a0 a1 a2) :
    Calls Tryd.prog 27 #[rcV x true q t, .int .i64 n] w fun e w' => e = .returned (erV a2) ∧ Below w.heap.size w w' := by
  have HM := Lib.hid (seq_minus n x hn hx)
  obtain ⟨c0, c1, c2, _, _, _, _, _, _⟩ := hS.more ((Below.refl _ w).alloc (Nat.le_refl _) (.cells (rcL x true q t).toArray 31))
  have hb := Lib.hid ((Below.refl _ w).alloc (Nat.le_refl _) (.cells (rcL x true q t).toArray 31))
  clear hx hn hS
  go_enter Tryd.func27, Tryd.ntmps27
  go_wp2_with fail
  refine (HM.out _).mono ?_
  rintro e w' ⟨rfl, rfl⟩
  go_wp2
  go_ret
  exact ⟨rfl, hb.out⟩
set_option maxHeartbeats 1000000 in
theorem rf_nil (x : Int) (q : Bool) (t n : Int) (hx : 0 ≤ x ∧ x ≤ 255) (hn : 0 ≤ n ∧ n ≤ 255) (h1 : (n - x) % 256 = 0 ∧ t < 1000000) (a0 a1 a2 : Addr) (w : World) (hS : Sents w a0 a1 a2) :
    Calls Tryd.prog 27 #[rcV x false q t, .int .i64 n] w fun e w' => e = .returned .nilIface ∧ Below w.heap.size w w' := by
  have HM := Lib.hid (seq_minus n x hn hx)
  obtain ⟨c0, c1, c2, _, _, _, _, _, _⟩ := hS.more ((Below.refl _ w).alloc (Nat.le_refl _) (.cells (rcL x false q t).toArray 31))
  have hb := Lib.hid ((Below.refl _ w).alloc (Nat.le_refl _) (.cells (rcL x false q t).toArray 31))
  have e1 : (n - x) % 256 = 0 := h1.1
  have e2 : decide (t < 1000000) = true := by simpa using h1.2
  clear hx hn hS h1
  go_enter Tryd.func27, Tryd.ntmps27
  go_wp2_with fail
  refine (HM.out _).mono ?_
  rintro e w' ⟨rfl, rfl⟩
  go_wp2
  go_ret
  exact ⟨rfl, hb.out⟩
set_option maxHeartbeats 1000000 in
theorem rf_ask (x : Int) (q : Bool) (t n : Int) (hx : 0 ≤ x ∧ x ≤ 255) (hn : 0 ≤ n ∧ n ≤ 255) (h1 : 1 ≤ (n - x) % 256 ∧ (n - x) % 256 ≤ 40) (a0 a1 a2 : Addr) (w : World) (hS : Sents w a0 a1 a2) :
    Calls Tryd.prog 27 #[rcV x false q t, .int .i64 n] w fun e w' => e = .returned (erV a0) ∧ Below w.heap.size w w' := by
  have HM := Lib.hid (seq_minus n x hn hx)
  obtain ⟨c0, c1, c2, _, _, _, _, _, _⟩ := hS.more ((Below.refl _ w).alloc (Nat.le_refl _) (.cells (rcL x false q t).toArray 31))
  have hb := Lib.hid ((Below.refl _ w).alloc (Nat.le_refl _) (.cells (rcL x false q t).toArray 31))
  have HI1 := Lib.hid (iw_yes ((n - x) % 256) 1 40 h1.1 h1.2)
  have hz : ((n - x) % 256 == 0) = false := by simp; omega
  clear hx hn hS h1
  go_enter Tryd.func27, Tryd.ntmps27
  go_wp2_with fail
  refine (HM.out _).mono ?_
  rintro e w' ⟨rfl, rfl⟩
  go_wp2_with fail
  refine (HI1.out _).mono ?_
  rintro e w' ⟨rfl, rfl⟩
  go_wp2
  go_ret
  exact ⟨rfl, hb.out⟩
set_option maxHeartbeats 1000000 in
theorem rf_lck (x : Int) (q : Bool) (t n : Int) (hx : 0 ≤ x ∧ x ≤ 255) (hn : 0 ≤ n ∧ n ≤ 255) (h1 : 41 ≤ (n - x) % 256 ∧ (n - x) % 256 ≤ 215) (a0 a1 a2 : Addr) (w : World) (hS : Sents w a0 a1 a2) :
    Calls Tryd.prog 27 #[rcV x false q t, .int .i64 n] w fun e w' => e = .returned (erV a1) ∧ Below w.heap.size w w' := by
  have HM := Lib.hid (seq_minus n x hn hx)
  obtain ⟨c0, c1, c2, _, _, _, _, _, _⟩ := hS.more ((Below.refl _ w).alloc (Nat.le_refl _) (.cells (rcL x false q t).toArray 31))
  have hb := Lib.hid ((Below.refl _ w).alloc (Nat.le_refl _) (.cells (rcL x false q t).toArray 31))
  have HI1 := Lib.hid (iw_no ((n - x) % 256) 1 40 (fun h => by omega))
  have HI2 := Lib.hid (iw_yes ((n - x) % 256) 41 215 h1.1 h1.2)
  have hz : ((n - x) % 256 == 0) = false := by simp; omega
  clear hx hn hS h1
  go_enter Tryd.func27, Tryd.ntmps27
  go_wp2_with fail
  refine (HM.out _).mono ?_
  rintro e w' ⟨rfl, rfl⟩
  go_wp2_with fail
  refine (HI1.out _).mono ?_
  rintro e w' ⟨rfl, rfl⟩
  go_wp2_with fail
  refine (HI2.out _).mono ?_
  rintro e w' ⟨rfl, rfl⟩
  go_wp2
  go_ret
  exact ⟨rfl, hb.out⟩
set_option maxHeartbeats 1000000 in
theorem rf_ign2 (x : Int) (q : Bool) (t n : Int) (hx : 0 ≤ x ∧ x ≤ 255) (hn : 0 ≤ n ∧ n ≤ 255) (h1 : ¬ ((n - x) % 256 = 0 ∧ t < 1000000)) (h2 : ¬ (1 ≤ (n - x) % 256 ∧ (n - x) % 256 ≤ 40)) (h3 : ¬ (41 ≤ (n - x) % 256 ∧ (n - x) % 256 ≤ 215)) (a0 a1 a2 : Addr) (w : World) (hS : Sents w a0 a1 a2) :
    Calls Tryd.prog 27 #[rcV x false q t, .int .i64 n] w fun e w' => e = .returned (erV a2) ∧ Below w.heap.size w w' := by
  have HM := Lib.hid (seq_minus n x hn hx)
  obtain ⟨c0, c1, c2, _, _, _, _, _, _⟩ := hS.more ((Below.refl _ w).alloc (Nat.le_refl _) (.cells (rcL x false q t).toArray 31))
  have hb := Lib.hid ((Below.refl _ w).alloc (Nat.le_refl _) (.cells (rcL x false q t).toArray 31))
  have HI1 := Lib.hid (iw_no ((n - x) % 256) 1 40 h2)
  have HI2 := Lib.hid (iw_no ((n - x) % 256) 41 215 h3)
  by_cases hz0 : (n - x) % 256 = 0
  · have hz : ((n - x) % 256 == 0) = true := by simp; omega
    have ht : decide (t < 1000000) = false := by simp; omega
    clear hx hn hS h1 h2 h3 hz0
    go_enter Tryd.func27, Tryd.ntmps27
    go_wp2_with fail
    refine (HM.out _).mono ?_
    rintro e w' ⟨rfl, rfl⟩
    go_wp2_with fail
    refine (HI1.out _).mono ?_
    rintro e w' ⟨rfl, rfl⟩
    go_wp2_with fail
    refine (HI2.out _).mono ?_
    rintro e w' ⟨rfl, rfl⟩
    go_wp2
    go_ret
    exact ⟨rfl, hb.out⟩
  · have hz : ((n - x) % 256 == 0) = false := by simp; omega
    clear hx hn hS h1 h2 h3 hz0
    go_enter Tryd.func27, Tryd.ntmps27
    go_wp2_with fail
    refine (HM.out _).mono ?_
    rintro e w' ⟨rfl, rfl⟩
    go_wp2_with fail
    refine (HI1.out _).mono ?_
    rintro e w' ⟨rfl, rfl⟩
    go_wp2_with fail
    refine (HI2.out _).mono ?_
    rintro e w' ⟨rfl, rfl⟩
    go_wp2
    go_ret
    exact ⟨rfl, hb.out⟩
end Go.Proofs.YtmmedhjmilgnbaaDoor
