/- What this text proves: the contract of PutWord. -/
import Derived.Test.YtggfmimnmpanbaaBytes
import Derived.LoopTactic
import Derived.IntWalk
import Derived.Outline
import Derived.Laws.AppendOwn
import Derived.WalkLawsBesides
import Derived.WalkSpells
import Derived.Lib.SliceRun
import Derived.Stop.BytesEq
import Derived.Laws.IdiomStrings
namespace Go.Proofs.Ytggfmimnmpanbaa
open Go.ChangeShapes Go.WideShapes Go.ChangeAt Go.RowKit
set_option linter.unusedVariables false

/-- Byte j of a number, from below. -/
def byteN (n j : Nat) : UInt8 := UInt8.ofNat (n / 256 ^ j)
theorem byteN_val (n j : Nat) : (byteN n j).toNat = n / 256 ^ j % 256 := by unfold byteN; simp [UInt8.toNat_ofNat']

theorem wordOf_any (n : Nat) (hn : n < 4294967296) (w : World) :
    Calls Try.prog 89 #[.int .i64 n] w fun e w' => e = .returned (.agg #[.int .u8 ((byteN n 3).toNat : Int), .int .u8 ((byteN n 2).toNat : Int), .int .u8 ((byteN n 1).toNat : Int), .int .u8 ((byteN n 0).toNat : Int)]) ∧ Below w.heap.size w w' := by
  have e3 := byteN_val n 3
  have e2 := byteN_val n 2
  have e1 := byteN_val n 1
  have e0 := byteN_val n 0
  have E3 := Lib.hid (show ((byteN n 3).toNat : Int) = (n : Int) / 16777216 by rw [e3]; omega)
  have E2 := Lib.hid (show ((byteN n 2).toNat : Int) = (n : Int) / 65536 % 256 by rw [e2]; omega)
  have E1 := Lib.hid (show ((byteN n 1).toNat : Int) = (n : Int) / 256 % 256 by rw [e1]; omega)
  have E0 := Lib.hid (show ((byteN n 0).toNat : Int) = (n : Int) % 256 by rw [e0]; omega)
  clear e3 e2 e1 e0
  go_enter Try.func89, Try.ntmps89
  go_wp2
  refine bodyPost_ret (v := .agg #[.int .u8 ((n : Int) / 16777216), .int .u8 ((n : Int) / 65536 % 256), .int .u8 ((n : Int) / 256 % 256), .int .u8 ((n : Int) % 256)]) (by simp [results, Try.results89, go_sem]) rfl ⟨?_, (Below.refl _ _).alloc (Nat.le_refl _) _⟩
  rw [E3.out, E2.out, E1.out, E0.out]


theorem zero_u8 (w : World) : (zeroValue 5).run Try.prog w = .ok (.int .u8 0) w := by kernel_rfl
theorem size_u8 (w : World) : (sizeOf 5).run Try.prog w = .ok 1 w := by kernel_rfl
theorem neq_word (w : World) (xs ys : List UInt8) (hx : xs.length = 4) (hy : ys.length = 4) :
    (binOp .neq 140 (.agg (xs.map Extern.Stop.cell).toArray) (.agg (ys.map Extern.Stop.cell).toArray)).run Try.prog w = .ok (.bool (!(xs == ys))) w := by
  rw [run_neq_struct, run_equalIn_bytes w 9998 140 5 4 Try.underlying140 Try.underlying5 size_u8 xs ys hx hy]
  rfl
theorem conv_new (w : World) (c : Array Value) (T : TypeId) (o : Obj) (off : Nat) (l : List UInt8) (cap : Nat) (hc : ∀ j (hj : j < l.length), c[off + j]? = some (.int .u8 (l[j].toNat : Int))) :
    (convert 22 9 (.slice (some ⟨w.heap.size, off, none⟩) l.length cap)).run Try.prog ((w.alloc (.cells c T)).alloc o) = .ok (.string ⟨l.toArray⟩) ((w.alloc (.cells c T)).alloc o) :=
  run_convert_bytes_back _ 22 9 5 ⟨w.heap.size, off, none⟩ cap l Try.underlying22 Try.underlying5 Try.underlying9 fun j hj => by
    rw [show (⟨w.heap.size, off, none⟩ : Addr).add j = ⟨w.heap.size, off + j, none⟩ from by unfold Addr.add; split <;> simp_all]
    rw [World.cell?_alloc_past _ _ _ (by simp), World.cell?_alloc_at _ _ _ _ rfl]
    exact hc j hj

/-- The k lowest bytes of a number, the highest first. -/
def putB (n : Nat) : Nat → List UInt8
  | 0 => []
  | k + 1 => byteN n k :: putB n k

set_option maxHeartbeats 1000000 in
theorem put_impl1_in (n : Nat) (hn : n < 4294967296) (hk : n < 256) (w : World) :
    Calls Try.prog 87 #[.int .i64 n, .int .i64 1] w fun e w' => e = .returned (.string ⟨(putB n 1).toArray⟩) ∧ Below w.heap.size w w' := by
  have hd3 : decide ((n : Int) < 0) = false := by simp
  have hd4 : decide ((4294967295 : Int) < (n : Int)) = false := by simp; omega
  have hw := Lib.hid (wordOf_any n hn)
  have e3 := byteN_val n 3
  have e2 := byteN_val n 2
  have e1 := byteN_val n 1
  have e0 := byteN_val n 0
  have hput := Lib.hid (show putB n 1 = [byteN n 0] from rfl)
  generalize byteN n 3 = x3 at hw e3
  generalize byteN n 2 = x2 at hw e2
  generalize byteN n 1 = x1 at hw e1
  generalize byteN n 0 = x0 at hw e0 hput
  have hsame : (!(([0, 0, 0, x0] : List UInt8) == [x3, x2, x1, x0])) = false := by
    have z3 : x3 = 0 := UInt8.toNat_inj.1 (by rw [e3]; show _ = 0; omega)
    have z2 : x2 = 0 := UInt8.toNat_inj.1 (by rw [e2]; show _ = 0; omega)
    have z1 : x1 = 0 := UInt8.toNat_inj.1 (by rw [e1]; show _ = 0; omega)
    simp [z3, z2, z1]
  have hneq : ∀ W : World, (binOp .neq 140 (.agg #[.int .u8 0, .int .u8 0, .int .u8 0, .int .u8 (x0.toNat : Int)]) (.agg #[.int .u8 (x3.toNat : Int), .int .u8 (x2.toNat : Int), .int .u8 (x1.toNat : Int), .int .u8 (x0.toNat : Int)])).run Try.prog W = .ok (.bool false) W := fun W => by
    have h := neq_word W [0, 0, 0, x0] [x3, x2, x1, x0] rfl rfl
    rw [hsame] at h
    exact h
  have Hs := Lib.hid hsame
  clear hsame
  clear e3 e2 e1 e0
  have hclr : ∀ w1 : World, (Builtin.clear_ #[22] 0 #[.slice (some ⟨w1.heap.size + 1, 0, none⟩) 3 4]).run Try.prog ((w1.alloc (.cells #[.int .u8 (x3.toNat : Int), .int .u8 (x2.toNat : Int), .int .u8 (x1.toNat : Int), .int .u8 (x0.toNat : Int)] 140)).alloc (.cells #[.int .u8 (x3.toNat : Int), .int .u8 (x2.toNat : Int), .int .u8 (x1.toNat : Int), .int .u8 (x0.toNat : Int)] 140)) =
      .ok (.tuple #[]) ((w1.alloc (.cells #[.int .u8 (x3.toNat : Int), .int .u8 (x2.toNat : Int), .int .u8 (x1.toNat : Int), .int .u8 (x0.toNat : Int)] 140)).alloc (.cells #[.int .u8 0, .int .u8 0, .int .u8 0, .int .u8 (x0.toNat : Int)] 140)) := fun w1 => by
    have h := Lib.run_clear_slice (P := Try.prog) ((w1.alloc (.cells #[.int .u8 (x3.toNat : Int), .int .u8 (x2.toNat : Int), .int .u8 (x1.toNat : Int), .int .u8 (x0.toNat : Int)] 140)).alloc (.cells #[.int .u8 (x3.toNat : Int), .int .u8 (x2.toNat : Int), .int .u8 (x1.toNat : Int), .int .u8 (x0.toNat : Int)] 140)) 22 5 0 (.int .u8 0) Try.underlying22 zero_u8 rfl rfl (w1.heap.size + 1) 0 3 4 (by decide)
      (fun i hi => by rw [World.cell?_alloc_at _ _ _ _ (by simp)]; (have : i < 4 := by omega); simp [this]) (fun i _ => by rw [World.frozen?_alloc_at _ _ _ _ (by simp)])
    rw [h]
    simp [World.setCells, World.setCell_alloc_at, List.replicate]
  have hcv : ∀ w1 : World, (convert 22 9 (.slice (some ⟨w1.heap.size, 3, none⟩) 1 1)).run Try.prog ((w1.alloc (.cells #[.int .u8 (x3.toNat : Int), .int .u8 (x2.toNat : Int), .int .u8 (x1.toNat : Int), .int .u8 (x0.toNat : Int)] 140)).alloc (.cells #[.int .u8 0, .int .u8 0, .int .u8 0, .int .u8 (x0.toNat : Int)] 140)) = .ok (.string ⟨([x0] : List UInt8).toArray⟩) ((w1.alloc (.cells #[.int .u8 (x3.toNat : Int), .int .u8 (x2.toNat : Int), .int .u8 (x1.toNat : Int), .int .u8 (x0.toNat : Int)] 140)).alloc (.cells #[.int .u8 0, .int .u8 0, .int .u8 0, .int .u8 (x0.toNat : Int)] 140)) :=
    fun w1 => conv_new w1 _ 140 _ 3 [x0] 1 (fun i hi => by
      have hi' : i = 0 := by simp at hi; omega
      rcases hi' with rfl <;> rfl)
  go_enter Try.func87, Try.ntmps87
  go_wp2_with (go_at_call 89; refine (hw.out _).mono ?_; rintro e w1 ⟨rfl, hb1⟩)
  go_ret
  exact ⟨by rw [hput.out]; rfl, (hb1.alloc hb1.size _).alloc (by simp; have := hb1.size; omega) _⟩

set_option maxHeartbeats 1000000 in
theorem put_impl1_out (n : Nat) (hn : n < 4294967296) (hk : ¬ n < 256) (w : World) :
    Calls Try.prog 87 #[.int .i64 n, .int .i64 1] w fun e w' => e = .returned (.string ⟨#[]⟩) ∧ Below w.heap.size w w' := by
  have hd3 : decide ((n : Int) < 0) = false := by simp
  have hd4 : decide ((4294967295 : Int) < (n : Int)) = false := by simp; omega
  have hw := Lib.hid (wordOf_any n hn)
  have e3 := byteN_val n 3
  have e2 := byteN_val n 2
  have e1 := byteN_val n 1
  have e0 := byteN_val n 0
  generalize byteN n 3 = x3 at hw e3
  generalize byteN n 2 = x2 at hw e2
  generalize byteN n 1 = x1 at hw e1
  generalize byteN n 0 = x0 at hw e0
  have hsame : (!(([0, 0, 0, x0] : List UInt8) == [x3, x2, x1, x0])) = true := by
    rw [Bool.not_eq_true', beq_eq_false_iff_ne]
    intro h
    simp only [List.cons.injEq, and_true] at h
    have z3 : x3.toNat = 0 := by simp [← h.1]
    have z2 : x2.toNat = 0 := by simp [← h.2.1]
    have z1 : x1.toNat = 0 := by simp [← h.2.2]
    omega
  have hneq : ∀ W : World, (binOp .neq 140 (.agg #[.int .u8 0, .int .u8 0, .int .u8 0, .int .u8 (x0.toNat : Int)]) (.agg #[.int .u8 (x3.toNat : Int), .int .u8 (x2.toNat : Int), .int .u8 (x1.toNat : Int), .int .u8 (x0.toNat : Int)])).run Try.prog W = .ok (.bool true) W := fun W => by
    have h := neq_word W [0, 0, 0, x0] [x3, x2, x1, x0] rfl rfl
    rw [hsame] at h
    exact h
  have Hs := Lib.hid hsame
  clear hsame
  clear e3 e2 e1 e0
  have hclr : ∀ w1 : World, (Builtin.clear_ #[22] 0 #[.slice (some ⟨w1.heap.size + 1, 0, none⟩) 3 4]).run Try.prog ((w1.alloc (.cells #[.int .u8 (x3.toNat : Int), .int .u8 (x2.toNat : Int), .int .u8 (x1.toNat : Int), .int .u8 (x0.toNat : Int)] 140)).alloc (.cells #[.int .u8 (x3.toNat : Int), .int .u8 (x2.toNat : Int), .int .u8 (x1.toNat : Int), .int .u8 (x0.toNat : Int)] 140)) =
      .ok (.tuple #[]) ((w1.alloc (.cells #[.int .u8 (x3.toNat : Int), .int .u8 (x2.toNat : Int), .int .u8 (x1.toNat : Int), .int .u8 (x0.toNat : Int)] 140)).alloc (.cells #[.int .u8 0, .int .u8 0, .int .u8 0, .int .u8 (x0.toNat : Int)] 140)) := fun w1 => by
    have h := Lib.run_clear_slice (P := Try.prog) ((w1.alloc (.cells #[.int .u8 (x3.toNat : Int), .int .u8 (x2.toNat : Int), .int .u8 (x1.toNat : Int), .int .u8 (x0.toNat : Int)] 140)).alloc (.cells #[.int .u8 (x3.toNat : Int), .int .u8 (x2.toNat : Int), .int .u8 (x1.toNat : Int), .int .u8 (x0.toNat : Int)] 140)) 22 5 0 (.int .u8 0) Try.underlying22 zero_u8 rfl rfl (w1.heap.size + 1) 0 3 4 (by decide)
      (fun i hi => by rw [World.cell?_alloc_at _ _ _ _ (by simp)]; (have : i < 4 := by omega); simp [this]) (fun i _ => by rw [World.frozen?_alloc_at _ _ _ _ (by simp)])
    rw [h]
    simp [World.setCells, World.setCell_alloc_at, List.replicate]
  go_enter Try.func87, Try.ntmps87
  go_wp2_with (go_at_call 89; refine (hw.out _).mono ?_; rintro e w1 ⟨rfl, hb1⟩)
  go_ret
  exact ⟨rfl, (hb1.alloc hb1.size _).alloc (by simp; have := hb1.size; omega) _⟩

set_option maxHeartbeats 1000000 in
theorem put_impl2_in (n : Nat) (hn : n < 4294967296) (hk : n < 65536) (w : World) :
    Calls Try.prog 87 #[.int .i64 n, .int .i64 2] w fun e w' => e = .returned (.string ⟨(putB n 2).toArray⟩) ∧ Below w.heap.size w w' := by
  have hd3 : decide ((n : Int) < 0) = false := by simp
  have hd4 : decide ((4294967295 : Int) < (n : Int)) = false := by simp; omega
  have hw := Lib.hid (wordOf_any n hn)
  have e3 := byteN_val n 3
  have e2 := byteN_val n 2
  have e1 := byteN_val n 1
  have e0 := byteN_val n 0
  have hput := Lib.hid (show putB n 2 = [byteN n 1, byteN n 0] from rfl)
  generalize byteN n 3 = x3 at hw e3
  generalize byteN n 2 = x2 at hw e2
  generalize byteN n 1 = x1 at hw e1 hput
  generalize byteN n 0 = x0 at hw e0 hput
  have hsame : (!(([0, 0, x1, x0] : List UInt8) == [x3, x2, x1, x0])) = false := by
    have z3 : x3 = 0 := UInt8.toNat_inj.1 (by rw [e3]; show _ = 0; omega)
    have z2 : x2 = 0 := UInt8.toNat_inj.1 (by rw [e2]; show _ = 0; omega)
    simp [z3, z2]
  have hneq : ∀ W : World, (binOp .neq 140 (.agg #[.int .u8 0, .int .u8 0, .int .u8 (x1.toNat : Int), .int .u8 (x0.toNat : Int)]) (.agg #[.int .u8 (x3.toNat : Int), .int .u8 (x2.toNat : Int), .int .u8 (x1.toNat : Int), .int .u8 (x0.toNat : Int)])).run Try.prog W = .ok (.bool false) W := fun W => by
    have h := neq_word W [0, 0, x1, x0] [x3, x2, x1, x0] rfl rfl
    rw [hsame] at h
    exact h
  have Hs := Lib.hid hsame
  clear hsame
  clear e3 e2 e1 e0
  have hclr : ∀ w1 : World, (Builtin.clear_ #[22] 0 #[.slice (some ⟨w1.heap.size + 1, 0, none⟩) 2 4]).run Try.prog ((w1.alloc (.cells #[.int .u8 (x3.toNat : Int), .int .u8 (x2.toNat : Int), .int .u8 (x1.toNat : Int), .int .u8 (x0.toNat : Int)] 140)).alloc (.cells #[.int .u8 (x3.toNat : Int), .int .u8 (x2.toNat : Int), .int .u8 (x1.toNat : Int), .int .u8 (x0.toNat : Int)] 140)) =
      .ok (.tuple #[]) ((w1.alloc (.cells #[.int .u8 (x3.toNat : Int), .int .u8 (x2.toNat : Int), .int .u8 (x1.toNat : Int), .int .u8 (x0.toNat : Int)] 140)).alloc (.cells #[.int .u8 0, .int .u8 0, .int .u8 (x1.toNat : Int), .int .u8 (x0.toNat : Int)] 140)) := fun w1 => by
    have h := Lib.run_clear_slice (P := Try.prog) ((w1.alloc (.cells #[.int .u8 (x3.toNat : Int), .int .u8 (x2.toNat : Int), .int .u8 (x1.toNat : Int), .int .u8 (x0.toNat : Int)] 140)).alloc (.cells #[.int .u8 (x3.toNat : Int), .int .u8 (x2.toNat : Int), .int .u8 (x1.toNat : Int), .int .u8 (x0.toNat : Int)] 140)) 22 5 0 (.int .u8 0) Try.underlying22 zero_u8 rfl rfl (w1.heap.size + 1) 0 2 4 (by decide)
      (fun i hi => by rw [World.cell?_alloc_at _ _ _ _ (by simp)]; (have : i < 4 := by omega); simp [this]) (fun i _ => by rw [World.frozen?_alloc_at _ _ _ _ (by simp)])
    rw [h]
    simp [World.setCells, World.setCell_alloc_at, List.replicate]
  have hcv : ∀ w1 : World, (convert 22 9 (.slice (some ⟨w1.heap.size, 2, none⟩) 2 2)).run Try.prog ((w1.alloc (.cells #[.int .u8 (x3.toNat : Int), .int .u8 (x2.toNat : Int), .int .u8 (x1.toNat : Int), .int .u8 (x0.toNat : Int)] 140)).alloc (.cells #[.int .u8 0, .int .u8 0, .int .u8 (x1.toNat : Int), .int .u8 (x0.toNat : Int)] 140)) = .ok (.string ⟨([x1, x0] : List UInt8).toArray⟩) ((w1.alloc (.cells #[.int .u8 (x3.toNat : Int), .int .u8 (x2.toNat : Int), .int .u8 (x1.toNat : Int), .int .u8 (x0.toNat : Int)] 140)).alloc (.cells #[.int .u8 0, .int .u8 0, .int .u8 (x1.toNat : Int), .int .u8 (x0.toNat : Int)] 140)) :=
    fun w1 => conv_new w1 _ 140 _ 2 [x1, x0] 2 (fun i hi => by
      have hi' : i = 0 ∨ i = 1 := by simp at hi; omega
      rcases hi' with rfl | rfl <;> rfl)
  go_enter Try.func87, Try.ntmps87
  go_wp2_with (go_at_call 89; refine (hw.out _).mono ?_; rintro e w1 ⟨rfl, hb1⟩)
  go_ret
  exact ⟨by rw [hput.out]; rfl, (hb1.alloc hb1.size _).alloc (by simp; have := hb1.size; omega) _⟩

set_option maxHeartbeats 1000000 in
theorem put_impl2_out (n : Nat) (hn : n < 4294967296) (hk : ¬ n < 65536) (w : World) :
    Calls Try.prog 87 #[.int .i64 n, .int .i64 2] w fun e w' => e = .returned (.string ⟨#[]⟩) ∧ Below w.heap.size w w' := by
  have hd3 : decide ((n : Int) < 0) = false := by simp
  have hd4 : decide ((4294967295 : Int) < (n : Int)) = false := by simp; omega
  have hw := Lib.hid (wordOf_any n hn)
  have e3 := byteN_val n 3
  have e2 := byteN_val n 2
  have e1 := byteN_val n 1
  have e0 := byteN_val n 0
  generalize byteN n 3 = x3 at hw e3
  generalize byteN n 2 = x2 at hw e2
  generalize byteN n 1 = x1 at hw e1
  generalize byteN n 0 = x0 at hw e0
  have hsame : (!(([0, 0, x1, x0] : List UInt8) == [x3, x2, x1, x0])) = true := by
    rw [Bool.not_eq_true', beq_eq_false_iff_ne]
    intro h
    simp only [List.cons.injEq, and_true] at h
    have z3 : x3.toNat = 0 := by simp [← h.1]
    have z2 : x2.toNat = 0 := by simp [← h.2]
    omega
  have hneq : ∀ W : World, (binOp .neq 140 (.agg #[.int .u8 0, .int .u8 0, .int .u8 (x1.toNat : Int), .int .u8 (x0.toNat : Int)]) (.agg #[.int .u8 (x3.toNat : Int), .int .u8 (x2.toNat : Int), .int .u8 (x1.toNat : Int), .int .u8 (x0.toNat : Int)])).run Try.prog W = .ok (.bool true) W := fun W => by
    have h := neq_word W [0, 0, x1, x0] [x3, x2, x1, x0] rfl rfl
    rw [hsame] at h
    exact h
  have Hs := Lib.hid hsame
  clear hsame
  clear e3 e2 e1 e0
  have hclr : ∀ w1 : World, (Builtin.clear_ #[22] 0 #[.slice (some ⟨w1.heap.size + 1, 0, none⟩) 2 4]).run Try.prog ((w1.alloc (.cells #[.int .u8 (x3.toNat : Int), .int .u8 (x2.toNat : Int), .int .u8 (x1.toNat : Int), .int .u8 (x0.toNat : Int)] 140)).alloc (.cells #[.int .u8 (x3.toNat : Int), .int .u8 (x2.toNat : Int), .int .u8 (x1.toNat : Int), .int .u8 (x0.toNat : Int)] 140)) =
      .ok (.tuple #[]) ((w1.alloc (.cells #[.int .u8 (x3.toNat : Int), .int .u8 (x2.toNat : Int), .int .u8 (x1.toNat : Int), .int .u8 (x0.toNat : Int)] 140)).alloc (.cells #[.int .u8 0, .int .u8 0, .int .u8 (x1.toNat : Int), .int .u8 (x0.toNat : Int)] 140)) := fun w1 => by
    have h := Lib.run_clear_slice (P := Try.prog) ((w1.alloc (.cells #[.int .u8 (x3.toNat : Int), .int .u8 (x2.toNat : Int), .int .u8 (x1.toNat : Int), .int .u8 (x0.toNat : Int)] 140)).alloc (.cells #[.int .u8 (x3.toNat : Int), .int .u8 (x2.toNat : Int), .int .u8 (x1.toNat : Int), .int .u8 (x0.toNat : Int)] 140)) 22 5 0 (.int .u8 0) Try.underlying22 zero_u8 rfl rfl (w1.heap.size + 1) 0 2 4 (by decide)
      (fun i hi => by rw [World.cell?_alloc_at _ _ _ _ (by simp)]; (have : i < 4 := by omega); simp [this]) (fun i _ => by rw [World.frozen?_alloc_at _ _ _ _ (by simp)])
    rw [h]
    simp [World.setCells, World.setCell_alloc_at, List.replicate]
  go_enter Try.func87, Try.ntmps87
  go_wp2_with (go_at_call 89; refine (hw.out _).mono ?_; rintro e w1 ⟨rfl, hb1⟩)
  go_ret
  exact ⟨rfl, (hb1.alloc hb1.size _).alloc (by simp; have := hb1.size; omega) _⟩

set_option maxHeartbeats 1000000 in
theorem put_impl3_in (n : Nat) (hn : n < 4294967296) (hk : n < 16777216) (w : World) :
    Calls Try.prog 87 #[.int .i64 n, .int .i64 3] w fun e w' => e = .returned (.string ⟨(putB n 3).toArray⟩) ∧ Below w.heap.size w w' := by
  have hd3 : decide ((n : Int) < 0) = false := by simp
  have hd4 : decide ((4294967295 : Int) < (n : Int)) = false := by simp; omega
  have hw := Lib.hid (wordOf_any n hn)
  have e3 := byteN_val n 3
  have e2 := byteN_val n 2
  have e1 := byteN_val n 1
  have e0 := byteN_val n 0
  have hput := Lib.hid (show putB n 3 = [byteN n 2, byteN n 1, byteN n 0] from rfl)
  generalize byteN n 3 = x3 at hw e3
  generalize byteN n 2 = x2 at hw e2 hput
  generalize byteN n 1 = x1 at hw e1 hput
  generalize byteN n 0 = x0 at hw e0 hput
  have hsame : (!(([0, x2, x1, x0] : List UInt8) == [x3, x2, x1, x0])) = false := by
    have z3 : x3 = 0 := UInt8.toNat_inj.1 (by rw [e3]; show _ = 0; omega)
    simp [z3]
  have hneq : ∀ W : World, (binOp .neq 140 (.agg #[.int .u8 0, .int .u8 (x2.toNat : Int), .int .u8 (x1.toNat : Int), .int .u8 (x0.toNat : Int)]) (.agg #[.int .u8 (x3.toNat : Int), .int .u8 (x2.toNat : Int), .int .u8 (x1.toNat : Int), .int .u8 (x0.toNat : Int)])).run Try.prog W = .ok (.bool false) W := fun W => by
    have h := neq_word W [0, x2, x1, x0] [x3, x2, x1, x0] rfl rfl
    rw [hsame] at h
    exact h
  have Hs := Lib.hid hsame
  clear hsame
  clear e3 e2 e1 e0
  have hclr : ∀ w1 : World, (Builtin.clear_ #[22] 0 #[.slice (some ⟨w1.heap.size + 1, 0, none⟩) 1 4]).run Try.prog ((w1.alloc (.cells #[.int .u8 (x3.toNat : Int), .int .u8 (x2.toNat : Int), .int .u8 (x1.toNat : Int), .int .u8 (x0.toNat : Int)] 140)).alloc (.cells #[.int .u8 (x3.toNat : Int), .int .u8 (x2.toNat : Int), .int .u8 (x1.toNat : Int), .int .u8 (x0.toNat : Int)] 140)) =
      .ok (.tuple #[]) ((w1.alloc (.cells #[.int .u8 (x3.toNat : Int), .int .u8 (x2.toNat : Int), .int .u8 (x1.toNat : Int), .int .u8 (x0.toNat : Int)] 140)).alloc (.cells #[.int .u8 0, .int .u8 (x2.toNat : Int), .int .u8 (x1.toNat : Int), .int .u8 (x0.toNat : Int)] 140)) := fun w1 => by
    have h := Lib.run_clear_slice (P := Try.prog) ((w1.alloc (.cells #[.int .u8 (x3.toNat : Int), .int .u8 (x2.toNat : Int), .int .u8 (x1.toNat : Int), .int .u8 (x0.toNat : Int)] 140)).alloc (.cells #[.int .u8 (x3.toNat : Int), .int .u8 (x2.toNat : Int), .int .u8 (x1.toNat : Int), .int .u8 (x0.toNat : Int)] 140)) 22 5 0 (.int .u8 0) Try.underlying22 zero_u8 rfl rfl (w1.heap.size + 1) 0 1 4 (by decide)
      (fun i hi => by rw [World.cell?_alloc_at _ _ _ _ (by simp)]; (have : i < 4 := by omega); simp [this]) (fun i _ => by rw [World.frozen?_alloc_at _ _ _ _ (by simp)])
    rw [h]
    simp [World.setCells, World.setCell_alloc_at, List.replicate]
  have hcv : ∀ w1 : World, (convert 22 9 (.slice (some ⟨w1.heap.size, 1, none⟩) 3 3)).run Try.prog ((w1.alloc (.cells #[.int .u8 (x3.toNat : Int), .int .u8 (x2.toNat : Int), .int .u8 (x1.toNat : Int), .int .u8 (x0.toNat : Int)] 140)).alloc (.cells #[.int .u8 0, .int .u8 (x2.toNat : Int), .int .u8 (x1.toNat : Int), .int .u8 (x0.toNat : Int)] 140)) = .ok (.string ⟨([x2, x1, x0] : List UInt8).toArray⟩) ((w1.alloc (.cells #[.int .u8 (x3.toNat : Int), .int .u8 (x2.toNat : Int), .int .u8 (x1.toNat : Int), .int .u8 (x0.toNat : Int)] 140)).alloc (.cells #[.int .u8 0, .int .u8 (x2.toNat : Int), .int .u8 (x1.toNat : Int), .int .u8 (x0.toNat : Int)] 140)) :=
    fun w1 => conv_new w1 _ 140 _ 1 [x2, x1, x0] 3 (fun i hi => by
      have hi' : i = 0 ∨ i = 1 ∨ i = 2 := by simp at hi; omega
      rcases hi' with rfl | rfl | rfl <;> rfl)
  go_enter Try.func87, Try.ntmps87
  go_wp2_with (go_at_call 89; refine (hw.out _).mono ?_; rintro e w1 ⟨rfl, hb1⟩)
  go_ret
  exact ⟨by rw [hput.out]; rfl, (hb1.alloc hb1.size _).alloc (by simp; have := hb1.size; omega) _⟩

set_option maxHeartbeats 1000000 in
theorem put_impl3_out (n : Nat) (hn : n < 4294967296) (hk : ¬ n < 16777216) (w : World) :
    Calls Try.prog 87 #[.int .i64 n, .int .i64 3] w fun e w' => e = .returned (.string ⟨#[]⟩) ∧ Below w.heap.size w w' := by
  have hd3 : decide ((n : Int) < 0) = false := by simp
  have hd4 : decide ((4294967295 : Int) < (n : Int)) = false := by simp; omega
  have hw := Lib.hid (wordOf_any n hn)
  have e3 := byteN_val n 3
  have e2 := byteN_val n 2
  have e1 := byteN_val n 1
  have e0 := byteN_val n 0
  generalize byteN n 3 = x3 at hw e3
  generalize byteN n 2 = x2 at hw e2
  generalize byteN n 1 = x1 at hw e1
  generalize byteN n 0 = x0 at hw e0
  have hsame : (!(([0, x2, x1, x0] : List UInt8) == [x3, x2, x1, x0])) = true := by
    rw [Bool.not_eq_true', beq_eq_false_iff_ne]
    intro h
    simp only [List.cons.injEq, and_true] at h
    have z3 : x3.toNat = 0 := by simp [← h]
    omega
  have hneq : ∀ W : World, (binOp .neq 140 (.agg #[.int .u8 0, .int .u8 (x2.toNat : Int), .int .u8 (x1.toNat : Int), .int .u8 (x0.toNat : Int)]) (.agg #[.int .u8 (x3.toNat : Int), .int .u8 (x2.toNat : Int), .int .u8 (x1.toNat : Int), .int .u8 (x0.toNat : Int)])).run Try.prog W = .ok (.bool true) W := fun W => by
    have h := neq_word W [0, x2, x1, x0] [x3, x2, x1, x0] rfl rfl
    rw [hsame] at h
    exact h
  have Hs := Lib.hid hsame
  clear hsame
  clear e3 e2 e1 e0
  have hclr : ∀ w1 : World, (Builtin.clear_ #[22] 0 #[.slice (some ⟨w1.heap.size + 1, 0, none⟩) 1 4]).run Try.prog ((w1.alloc (.cells #[.int .u8 (x3.toNat : Int), .int .u8 (x2.toNat : Int), .int .u8 (x1.toNat : Int), .int .u8 (x0.toNat : Int)] 140)).alloc (.cells #[.int .u8 (x3.toNat : Int), .int .u8 (x2.toNat : Int), .int .u8 (x1.toNat : Int), .int .u8 (x0.toNat : Int)] 140)) =
      .ok (.tuple #[]) ((w1.alloc (.cells #[.int .u8 (x3.toNat : Int), .int .u8 (x2.toNat : Int), .int .u8 (x1.toNat : Int), .int .u8 (x0.toNat : Int)] 140)).alloc (.cells #[.int .u8 0, .int .u8 (x2.toNat : Int), .int .u8 (x1.toNat : Int), .int .u8 (x0.toNat : Int)] 140)) := fun w1 => by
    have h := Lib.run_clear_slice (P := Try.prog) ((w1.alloc (.cells #[.int .u8 (x3.toNat : Int), .int .u8 (x2.toNat : Int), .int .u8 (x1.toNat : Int), .int .u8 (x0.toNat : Int)] 140)).alloc (.cells #[.int .u8 (x3.toNat : Int), .int .u8 (x2.toNat : Int), .int .u8 (x1.toNat : Int), .int .u8 (x0.toNat : Int)] 140)) 22 5 0 (.int .u8 0) Try.underlying22 zero_u8 rfl rfl (w1.heap.size + 1) 0 1 4 (by decide)
      (fun i hi => by rw [World.cell?_alloc_at _ _ _ _ (by simp)]; (have : i < 4 := by omega); simp [this]) (fun i _ => by rw [World.frozen?_alloc_at _ _ _ _ (by simp)])
    rw [h]
    simp [World.setCells, World.setCell_alloc_at, List.replicate]
  go_enter Try.func87, Try.ntmps87
  go_wp2_with (go_at_call 89; refine (hw.out _).mono ?_; rintro e w1 ⟨rfl, hb1⟩)
  go_ret
  exact ⟨rfl, (hb1.alloc hb1.size _).alloc (by simp; have := hb1.size; omega) _⟩

set_option maxHeartbeats 1000000 in
theorem put_impl4_in (n : Nat) (hn : n < 4294967296) (hk : n < 4294967296) (w : World) :
    Calls Try.prog 87 #[.int .i64 n, .int .i64 4] w fun e w' => e = .returned (.string ⟨(putB n 4).toArray⟩) ∧ Below w.heap.size w w' := by
  have hd3 : decide ((n : Int) < 0) = false := by simp
  have hd4 : decide ((4294967295 : Int) < (n : Int)) = false := by simp; omega
  have hw := Lib.hid (wordOf_any n hn)
  have e3 := byteN_val n 3
  have e2 := byteN_val n 2
  have e1 := byteN_val n 1
  have e0 := byteN_val n 0
  have hput := Lib.hid (show putB n 4 = [byteN n 3, byteN n 2, byteN n 1, byteN n 0] from rfl)
  generalize byteN n 3 = x3 at hw e3 hput
  generalize byteN n 2 = x2 at hw e2 hput
  generalize byteN n 1 = x1 at hw e1 hput
  generalize byteN n 0 = x0 at hw e0 hput
  have hsame : (!(([x3, x2, x1, x0] : List UInt8) == [x3, x2, x1, x0])) = false := by
    simp
  have hneq : ∀ W : World, (binOp .neq 140 (.agg #[.int .u8 (x3.toNat : Int), .int .u8 (x2.toNat : Int), .int .u8 (x1.toNat : Int), .int .u8 (x0.toNat : Int)]) (.agg #[.int .u8 (x3.toNat : Int), .int .u8 (x2.toNat : Int), .int .u8 (x1.toNat : Int), .int .u8 (x0.toNat : Int)])).run Try.prog W = .ok (.bool false) W := fun W => by
    have h := neq_word W [x3, x2, x1, x0] [x3, x2, x1, x0] rfl rfl
    rw [hsame] at h
    exact h
  have Hs := Lib.hid hsame
  clear hsame
  clear e3 e2 e1 e0
  have hclr : ∀ (w1 : World) (b : Nat), (Builtin.clear_ #[22] 0 #[.slice (some ⟨b, 0, none⟩) 0 4]).run Try.prog w1 = .ok (.tuple #[]) w1 := fun w1 b => by
    simp [Builtin.clear_, run_underlying Try.underlying22]
  have hcv : ∀ w1 : World, (convert 22 9 (.slice (some ⟨w1.heap.size, 0, none⟩) 4 4)).run Try.prog ((w1.alloc (.cells #[.int .u8 (x3.toNat : Int), .int .u8 (x2.toNat : Int), .int .u8 (x1.toNat : Int), .int .u8 (x0.toNat : Int)] 140)).alloc (.cells #[.int .u8 (x3.toNat : Int), .int .u8 (x2.toNat : Int), .int .u8 (x1.toNat : Int), .int .u8 (x0.toNat : Int)] 140)) = .ok (.string ⟨([x3, x2, x1, x0] : List UInt8).toArray⟩) ((w1.alloc (.cells #[.int .u8 (x3.toNat : Int), .int .u8 (x2.toNat : Int), .int .u8 (x1.toNat : Int), .int .u8 (x0.toNat : Int)] 140)).alloc (.cells #[.int .u8 (x3.toNat : Int), .int .u8 (x2.toNat : Int), .int .u8 (x1.toNat : Int), .int .u8 (x0.toNat : Int)] 140)) :=
    fun w1 => conv_new w1 _ 140 _ 0 [x3, x2, x1, x0] 4 (fun i hi => by
      have hi' : i = 0 ∨ i = 1 ∨ i = 2 ∨ i = 3 := by simp at hi; omega
      rcases hi' with rfl | rfl | rfl | rfl <;> rfl)
  go_enter Try.func87, Try.ntmps87
  go_wp2_with (go_at_call 89; refine (hw.out _).mono ?_; rintro e w1 ⟨rfl, hb1⟩)
  go_ret
  exact ⟨by rw [hput.out]; rfl, (hb1.alloc hb1.size _).alloc (by simp; have := hb1.size; omega) _⟩
end Go.Proofs.Ytggfmimnmpanbaa
