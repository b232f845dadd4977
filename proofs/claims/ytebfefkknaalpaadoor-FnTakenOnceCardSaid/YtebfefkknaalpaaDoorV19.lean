/- What this text proves: the parts ErrIs, Rfu of the proof, each under its own words. -/
import Derived.Test.YtebfefkknaalpaaDoorRows
import Derived.WalkKit
import Derived.LaidEql
import Derived.Stop.Asserts
import Derived.RowKitTokens
import Derived.Test.YtebfefkknaalpaaDoorV14
import Derived.Test.YtebfefkknaalpaaDoorV18
/- What this text proves: errors.Is by its contracts, over two errors of errors.New's make: the same one, another one. -/
namespace Go.Proofs.YtebfefkknaalpaaDoor
open Go.RowKit Go.Extern.Stop Go.Stop Go.Extern
set_option linter.unusedVariables false

/-! The numbers that are written out: 3: how many package-level variables there are; 227: how many types there are, and 100; #74, #77, #79: the interfaces of Is, Unwrap, Unwrap of many. -/
theorem isTypeOf (v : Value) (w : World) : (Extern.ReflectliteType.typeOf #[.iface 89 v]).run Tryd.prog w = .ok (.iface 72 (.agg #[.pointer (some ⟨3, 89, none⟩)])) w := by kernel_rfl
theorem isComparable (w : World) : ((Extern.ReflectliteType.method fun t => do Extern.Rtype.noPackHeld "Comparable" t; pure (.bool (← typeInfo t).comparable)) #[.agg #[.pointer (some ⟨3, 89, none⟩)]]).run Tryd.prog w = .ok (.bool true) w := by kernel_rfl
theorem isComparable2 (w : World) : ((Extern.ReflectliteType.method fun t => do Extern.Rtype.noPackHeld "Comparable" t; (fun a => Value.bool a.comparable) <$> typeInfo t) #[.agg #[.pointer (some ⟨3, 89, none⟩)]]).run Tryd.prog w = .ok (.bool true) w := by kernel_rfl
theorem isMethodComparable (v : Value) (w : World) : (Go.method 227 72 v "Comparable").run Tryd.prog w = .ok (55, v) w := by kernel_rfl
theorem isComp : (Tryd.prog.info? 89).map (·.comparable) = some true := by kernel_rfl
theorem isSize : (Tryd.prog.info? 115).map (·.size) = some 1 := by kernel_rfl
theorem noIsE (v : Value) (xT : TypeId) (w : World) : (Instr.typeAssert (.iface 89 v) xT 74 true).run Tryd.prog w = .ok (.tuple #[.nilIface, .bool false]) w := run_typeAssert_lacksB Tryd.underlying74 (by kernel_rfl) (by kernel_rfl) v xT w
theorem noUnwrapE (v : Value) (xT : TypeId) (w : World) : (Instr.typeAssert (.iface 89 v) xT 77 true).run Tryd.prog w = .ok (.tuple #[.nilIface, .bool false]) w := run_typeAssert_lacksB Tryd.underlying77 (by kernel_rfl) (by kernel_rfl) v xT w
theorem noUnwrapsE (v : Value) (xT : TypeId) (w : World) : (Instr.typeAssert (.iface 89 v) xT 79 true).run Tryd.prog w = .ok (.tuple #[.nilIface, .bool false]) w := run_typeAssert_lacksB Tryd.underlying79 (by kernel_rfl) (by kernel_rfl) v xT w

set_option maxRecDepth 8000 in
theorem is_same (a : Addr) (w : World) :
    Calls Tryd.prog 23 #[.iface 89 (.pointer (some a)), .iface 89 (.pointer (some a))] w fun e w' => e = .returned (.bool true) ∧ w = w' := by
  obtain ⟨i, hi, hcmp⟩ := Option.map_eq_some_iff.1 isComp
  obtain ⟨j, hj, hjs⟩ := Option.map_eq_some_iff.1 isSize
  have h8 := @run_callFunc_extern Tryd.prog 30 _ Extern.ReflectliteType.typeOf Tryd.func30 (by kernel_rfl) (by kernel_rfl) (by kernel_rfl) (by kernel_rfl)
  have h32 := @run_callFunc_extern Tryd.prog 55 _ (Extern.ReflectliteType.method fun t => do Extern.Rtype.noPackHeld "Comparable" t; pure (.bool (← typeInfo t).comparable)) Tryd.func55 (by kernel_rfl) (by kernel_rfl) (by kernel_rfl) (by kernel_rfl)
  have tT := isTypeOf
  have cT := isComparable
  have cT2 := isComparable2
  have mR := isMethodComparable
  have heq := run_eql_iface_ptr_same (P := Tryd.prog) w a Tryd.underlying55 Tryd.underlying89 hi hcmp hj
  go_enter Tryd.func23, Tryd.ntmps23
  go_wp2
  refine wp_loop_rounds 1 ?_
  rw [rounds_succ]
  go_wp2
  go_ret
  exact ⟨rfl, rfl⟩

set_option maxRecDepth 8000 in
theorem is_other (a b : Addr) (ca cb : Array Value) (ta tb : TypeId) (w : World) (hne : a ≠ b) (ha : w.heap[a.block]? = some (.cells ca ta (0, 0))) (hb : w.heap[b.block]? = some (.cells cb tb (0, 0))) :
    Calls Tryd.prog 23 #[.iface 89 (.pointer (some a)), .iface 89 (.pointer (some b))] w fun e w' => e = .returned (.bool false) ∧ w = w' := by
  obtain ⟨i, hi, hcmp⟩ := Option.map_eq_some_iff.1 isComp
  obtain ⟨j, hj, hjs⟩ := Option.map_eq_some_iff.1 isSize
  have h8 := @run_callFunc_extern Tryd.prog 30 _ Extern.ReflectliteType.typeOf Tryd.func30 (by kernel_rfl) (by kernel_rfl) (by kernel_rfl) (by kernel_rfl)
  have h32 := @run_callFunc_extern Tryd.prog 55 _ (Extern.ReflectliteType.method fun t => do Extern.Rtype.noPackHeld "Comparable" t; pure (.bool (← typeInfo t).comparable)) Tryd.func55 (by kernel_rfl) (by kernel_rfl) (by kernel_rfl) (by kernel_rfl)
  have tT := isTypeOf
  have cT := isComparable
  have cT2 := isComparable2
  have mR := isMethodComparable
  have nE := noIsE
  have uE := noUnwrapE
  have vE := noUnwrapsE
  have heq := run_eql_iface_ptr_other (P := Tryd.prog) w Tryd.underlying55 Tryd.underlying89 hi hcmp hj (by rw [hjs]; decide) hne ha hb
  go_enter Tryd.func23, Tryd.ntmps23
  go_wp2
  refine wp_loop_rounds 1 ?_
  rw [rounds_succ]
  go_wp2
  go_ret
  exact ⟨rfl, rfl⟩
end Go.Proofs.YtebfefkknaalpaaDoor
/- What this text proves: the contracts of the program's own reasons not to take a command. -/
namespace Go.Proofs.YtebfefkknaalpaaDoor
open Go.ChangeShapes Go.WideShapes Go.ChangeAt Go.RowKit
set_option linter.unusedVariables false

set_option maxHeartbeats 1000000 in
theorem rf_ign1 (x : Int) (q : Bool) (t n : Int) (hx : 0 ≤ x ∧ x ≤ 255) (hn : 0 ≤ n ∧ n ≤ 255) (a0 a1 a2 : Addr) (w : World) (hS : Sents w a0 a1 a2) :
    Calls Tryd.prog 22 #[rcV x true q t, .int .i64 n] w fun e w' => e = .returned (erV a2) ∧ Below w.heap.size w w' := by
  have HM := Lib.hid (seq_minus n x hn hx)
  obtain ⟨c0, c1, c2, _, _, _, _, _, _⟩ := hS.more ((Below.refl _ w).alloc (Nat.le_refl _) (.cells (rcL x true q t).toArray 31))
  have hb := Lib.hid ((Below.refl _ w).alloc (Nat.le_refl _) (.cells (rcL x true q t).toArray 31))
  clear hx hn hS
  go_enter Tryd.func22, Tryd.ntmps22
  go_wp2_with fail
  refine (HM.out _).mono ?_
  rintro e w' ⟨rfl, rfl⟩
  go_wp2
  go_ret
  exact ⟨rfl, hb.out⟩
set_option maxHeartbeats 1000000 in
theorem rf_nil (x : Int) (q : Bool) (t n : Int) (hx : 0 ≤ x ∧ x ≤ 255) (hn : 0 ≤ n ∧ n ≤ 255) (h1 : (n - x) % 256 = 0 ∧ t < 1000000) (a0 a1 a2 : Addr) (w : World) (hS : Sents w a0 a1 a2) :
    Calls Tryd.prog 22 #[rcV x false q t, .int .i64 n] w fun e w' => e = .returned .nilIface ∧ Below w.heap.size w w' := by
  have HM := Lib.hid (seq_minus n x hn hx)
  obtain ⟨c0, c1, c2, _, _, _, _, _, _⟩ := hS.more ((Below.refl _ w).alloc (Nat.le_refl _) (.cells (rcL x false q t).toArray 31))
  have hb := Lib.hid ((Below.refl _ w).alloc (Nat.le_refl _) (.cells (rcL x false q t).toArray 31))
  have e1 : (n - x) % 256 = 0 := h1.1
  have e2 : decide (t < 1000000) = true := by simpa using h1.2
  clear hx hn hS h1
  go_enter Tryd.func22, Tryd.ntmps22
  go_wp2_with fail
  refine (HM.out _).mono ?_
  rintro e w' ⟨rfl, rfl⟩
  go_wp2
  go_ret
  exact ⟨rfl, hb.out⟩
set_option maxHeartbeats 1000000 in
theorem rf_ask (x : Int) (q : Bool) (t n : Int) (hx : 0 ≤ x ∧ x ≤ 255) (hn : 0 ≤ n ∧ n ≤ 255) (h1 : 1 ≤ (n - x) % 256 ∧ (n - x) % 256 ≤ 40) (a0 a1 a2 : Addr) (w : World) (hS : Sents w a0 a1 a2) :
    Calls Tryd.prog 22 #[rcV x false q t, .int .i64 n] w fun e w' => e = .returned (erV a0) ∧ Below w.heap.size w w' := by
  have HM := Lib.hid (seq_minus n x hn hx)
  obtain ⟨c0, c1, c2, _, _, _, _, _, _⟩ := hS.more ((Below.refl _ w).alloc (Nat.le_refl _) (.cells (rcL x false q t).toArray 31))
  have hb := Lib.hid ((Below.refl _ w).alloc (Nat.le_refl _) (.cells (rcL x false q t).toArray 31))
  have HI1 := Lib.hid (iw_yes ((n - x) % 256) 1 40 h1.1 h1.2)
  have hz : ((n - x) % 256 == 0) = false := by simp; omega
  clear hx hn hS h1
  go_enter Tryd.func22, Tryd.ntmps22
  go_wp2_with fail
  refine (HM.out _).mono ?_
  rintro e w' ⟨rfl, rfl⟩
  go_wp2_with fail
  refine (HI1.out _).mono ?_
  rintro e w' ⟨rfl, rfl⟩
  go_wp2
  go_ret
  exact ⟨rfl, hb.out⟩
set_option maxHeartbeats 1000000 in
theorem rf_lck (x : Int) (q : Bool) (t n : Int) (hx : 0 ≤ x ∧ x ≤ 255) (hn : 0 ≤ n ∧ n ≤ 255) (h1 : 41 ≤ (n - x) % 256 ∧ (n - x) % 256 ≤ 215) (a0 a1 a2 : Addr) (w : World) (hS : Sents w a0 a1 a2) :
    Calls Tryd.prog 22 #[rcV x false q t, .int .i64 n] w fun e w' => e = .returned (erV a1) ∧ Below w.heap.size w w' := by
  have HM := Lib.hid (seq_minus n x hn hx)
  obtain ⟨c0, c1, c2, _, _, _, _, _, _⟩ := hS.more ((Below.refl _ w).alloc (Nat.le_refl _) (.cells (rcL x false q t).toArray 31))
  have hb := Lib.hid ((Below.refl _ w).alloc (Nat.le_refl _) (.cells (rcL x false q t).toArray 31))
  have HI1 := Lib.hid (iw_no ((n - x) % 256) 1 40 (fun h => by omega))
  have HI2 := Lib.hid (iw_yes ((n - x) % 256) 41 215 h1.1 h1.2)
  have hz : ((n - x) % 256 == 0) = false := by simp; omega
  clear hx hn hS h1
  go_enter Tryd.func22, Tryd.ntmps22
  go_wp2_with fail
  refine (HM.out _).mono ?_
  rintro e w' ⟨rfl, rfl⟩
  go_wp2_with fail
  refine (HI1.out _).mono ?_
  rintro e w' ⟨rfl, rfl⟩
  go_wp2_with fail
  refine (HI2.out _).mono ?_
  rintro e w' ⟨rfl, rfl⟩
  go_wp2
  go_ret
  exact ⟨rfl, hb.out⟩
set_option maxHeartbeats 1000000 in
theorem rf_ign2 (x : Int) (q : Bool) (t n : Int) (hx : 0 ≤ x ∧ x ≤ 255) (hn : 0 ≤ n ∧ n ≤ 255) (h1 : ¬ ((n - x) % 256 = 0 ∧ t < 1000000)) (h2 : ¬ (1 ≤ (n - x) % 256 ∧ (n - x) % 256 ≤ 40)) (h3 : ¬ (41 ≤ (n - x) % 256 ∧ (n - x) % 256 ≤ 215)) (a0 a1 a2 : Addr) (w : World) (hS : Sents w a0 a1 a2) :
    Calls Tryd.prog 22 #[rcV x false q t, .int .i64 n] w fun e w' => e = .returned (erV a2) ∧ Below w.heap.size w w' := by
  have HM := Lib.hid (seq_minus n x hn hx)
  obtain ⟨c0, c1, c2, _, _, _, _, _, _⟩ := hS.more ((Below.refl _ w).alloc (Nat.le_refl _) (.cells (rcL x false q t).toArray 31))
  have hb := Lib.hid ((Below.refl _ w).alloc (Nat.le_refl _) (.cells (rcL x false q t).toArray 31))
  have HI1 := Lib.hid (iw_no ((n - x) % 256) 1 40 h2)
  have HI2 := Lib.hid (iw_no ((n - x) % 256) 41 215 h3)
  by_cases hz0 : (n - x) % 256 = 0
  · have hz : ((n - x) % 256 == 0) = true := by simp; omega
    have ht : decide (t < 1000000) = false := by simp; omega
    clear hx hn hS h1 h2 h3 hz0
    go_enter Tryd.func22, Tryd.ntmps22
    go_wp2_with fail
    refine (HM.out _).mono ?_
    rintro e w' ⟨rfl, rfl⟩
    go_wp2_with fail
    refine (HI1.out _).mono ?_
    rintro e w' ⟨rfl, rfl⟩
    go_wp2_with fail
    refine (HI2.out _).mono ?_
    rintro e w' ⟨rfl, rfl⟩
    go_wp2
    go_ret
    exact ⟨rfl, hb.out⟩
  · have hz : ((n - x) % 256 == 0) = false := by simp; omega
    clear hx hn hS h1 h2 h3 hz0
    go_enter Tryd.func22, Tryd.ntmps22
    go_wp2_with fail
    refine (HM.out _).mono ?_
    rintro e w' ⟨rfl, rfl⟩
    go_wp2_with fail
    refine (HI1.out _).mono ?_
    rintro e w' ⟨rfl, rfl⟩
    go_wp2_with fail
    refine (HI2.out _).mono ?_
    rintro e w' ⟨rfl, rfl⟩
    go_wp2
    go_ret
    exact ⟨rfl, hb.out⟩
end Go.Proofs.YtebfefkknaalpaaDoor
