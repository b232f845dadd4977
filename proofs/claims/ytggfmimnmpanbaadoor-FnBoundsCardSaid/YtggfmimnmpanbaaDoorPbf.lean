/- What this text proves: the contract of the program's pairsBefore, and of the function that it hands back. -/
import Derived.Test.YtggfmimnmpanbaaDoorPvr
import Derived.Test.YtggfmimnmpanbaaDoorPrS
import Derived.Test.YtggfmimnmpanbaaDoorStB
import Derived.Test.YtggfmimnmpanbaaDoorIPk
namespace Go.Proofs.YtggfmimnmpanbaaDoor
open Go.ChangeShapes Go.WideShapes Go.ChangeAt Go.RowKit
set_option linter.unusedVariables false

abbrev pbV (g : Nat) : Value := .func (.func 42) #[] #[.pointer (some ⟨g, 0, none⟩)]
theorem pb_impl (w : World) (hv : Bfr w) :
    Calls Tryd.prog 37 #[] w fun e w' => e = .returned (pbV w.heap.size) ∧ w' = w.alloc (.cells (prL (-1) (-1)).toArray 32) := by
  have c0 := hv.c0
  have c1 := hv.c1
  have hmf : ∀ (fn : Fn) (first cap : Array Value) (w : World), (Instr.makeFunc fn first cap).run Tryd.prog w = .ok (.func fn first cap) w := fun _ _ _ _ => rfl
  clear hv
  go_enter Tryd.func37, Tryd.ntmps37
  go_wp2
  go_ret
  exact ⟨rfl, rfl⟩

theorem touch_past {w W : World} {S : Nat → Prop} (h : Touch w W S) {g : Nat} (hg : w.heap.size ≤ g) (j : Nat) (u : Value) : Touch w (W.setCell ⟨g, j, none⟩ u) S := by
  obtain ⟨h1, h2, h3, h4, h5⟩ := h
  exact ⟨h1, h2, h3, by simpa using h4, fun k hk hn => (Below.heap_setCell W _ u k (fun e => by have e2 : k = g := e; omega)).trans (h5 k hk hn)⟩
set_option maxRecDepth 20000 in
set_option maxHeartbeats 1000000 in
theorem pbc_impl (g : Nat) (a b x y : Int) (w : World) (hB : Box w g (prL x y)) :
    Calls Tryd.prog 42 #[prV a b, .pointer (some ⟨g, 0, none⟩)] w fun e w' => e = .returned (prV x y) ∧ Box w' g (prL a b) ∧ Touch w w' (fun k => k = g) := by
  have hlt := hB.lt
  have c0 : w.cell? ⟨g, 0, none⟩ = some (.int .i64 x) := hB.cell 0 (by simp)
  have c1 : w.cell? ⟨g, 1, none⟩ = some (.int .i64 y) := hB.cell 1 (by simp)
  have BG := Lib.hid (show Box (((w.alloc (.cells #[.int .i64 a, .int .i64 b] 32)).alloc (.cells #[.int .i64 0, .int .i64 0] 32)).alloc (.cells #[.int .i64 x, .int .i64 y] 32)) g (prL x y) from ((hB.alloc _).alloc _).alloc _)
  have BR := Lib.hid (show Box (((w.alloc (.cells #[.int .i64 a, .int .i64 b] 32)).alloc (.cells #[.int .i64 0, .int .i64 0] 32)).alloc (.cells #[.int .i64 x, .int .i64 y] 32)) (w.heap.size + 1) (prL 0 0) from (Box.made (w.alloc (.cells #[.int .i64 a, .int .i64 b] 32)) (prL 0 0) 32 (w.heap.size + 1) (by simp)).alloc _)
  have BL := Lib.hid (show Box (((w.alloc (.cells #[.int .i64 a, .int .i64 b] 32)).alloc (.cells #[.int .i64 0, .int .i64 0] 32)).alloc (.cells #[.int .i64 x, .int .i64 y] 32)) (w.heap.size + 1 + 1) (prL x y) from Box.made ((w.alloc (.cells #[.int .i64 a, .int .i64 b] 32)).alloc (.cells #[.int .i64 0, .int .i64 0] 32)) (prL x y) 32 (w.heap.size + 1 + 1) (by simp))
  have TW := Lib.hid (show Touch w (((((w.alloc (.cells #[.int .i64 a, .int .i64 b] 32)).alloc (.cells #[.int .i64 0, .int .i64 0] 32)).alloc (.cells #[.int .i64 x, .int .i64 y] 32)).setCell ⟨g, 0, none⟩ (.int .i64 a)).setCell ⟨g, 1, none⟩ (.int .i64 b)) (fun k => k = g) from (Touch.of_below ((((Below.refl _ w).alloc (Nat.le_refl _) _).alloc (by simp) _).alloc (by simp; omega) _) (fun k => k = g)).trans ((touch_set (((w.alloc (.cells #[.int .i64 a, .int .i64 b] 32)).alloc (.cells #[.int .i64 0, .int .i64 0] 32)).alloc (.cells #[.int .i64 x, .int .i64 y] 32)) g 0 (.int .i64 a)).trans (touch_set ((((w.alloc (.cells #[.int .i64 a, .int .i64 b] 32)).alloc (.cells #[.int .i64 0, .int .i64 0] 32)).alloc (.cells #[.int .i64 x, .int .i64 y] 32)).setCell ⟨g, 0, none⟩ (.int .i64 a)) g 1 (.int .i64 b))))
  have BG4 := Lib.hid (show Box (((((w.alloc (.cells #[.int .i64 a, .int .i64 b] 32)).alloc (.cells #[.int .i64 0, .int .i64 0] 32)).alloc (.cells #[.int .i64 x, .int .i64 y] 32)).setCell ⟨g, 0, none⟩ (.int .i64 a)).setCell ⟨g, 1, none⟩ (.int .i64 b)) g (prL a b) from (BG.out.set 0 (by simp) (.int .i64 a)).set 1 (by simp) (.int .i64 b))
  have BR4 := Lib.hid (show Box (((((w.alloc (.cells #[.int .i64 a, .int .i64 b] 32)).alloc (.cells #[.int .i64 0, .int .i64 0] 32)).alloc (.cells #[.int .i64 x, .int .i64 y] 32)).setCell ⟨g, 0, none⟩ (.int .i64 a)).setCell ⟨g, 1, none⟩ (.int .i64 b)) (w.heap.size + 1) (prL 0 0) from (BR.out.other (ga := g) (by omega) 0 (.int .i64 a)).other (ga := g) (by omega) 1 (.int .i64 b))
  have BL4 := Lib.hid (show Box (((((w.alloc (.cells #[.int .i64 a, .int .i64 b] 32)).alloc (.cells #[.int .i64 0, .int .i64 0] 32)).alloc (.cells #[.int .i64 x, .int .i64 y] 32)).setCell ⟨g, 0, none⟩ (.int .i64 a)).setCell ⟨g, 1, none⟩ (.int .i64 b)) (w.heap.size + 1 + 1) (prL x y) from (BL.out.other (ga := g) (by omega) 0 (.int .i64 a)).other (ga := g) (by omega) 1 (.int .i64 b))
  have k0 : (((w.alloc (.cells #[.int .i64 a, .int .i64 b] 32)).alloc (.cells #[.int .i64 0, .int .i64 0] 32)).alloc (.cells #[.int .i64 x, .int .i64 y] 32)).cell? ⟨g, 0, none⟩ = some (.int .i64 x) := BG.out.cell 0 (by simp)
  have k1 : ((((w.alloc (.cells #[.int .i64 a, .int .i64 b] 32)).alloc (.cells #[.int .i64 0, .int .i64 0] 32)).alloc (.cells #[.int .i64 x, .int .i64 y] 32)).setCell ⟨g, 0, none⟩ (.int .i64 a)).cell? ⟨g, 1, none⟩ = some (.int .i64 y) := (BG.out.set 0 (by simp) (.int .i64 a)).cell 1 (by simp)
  have ki : ∀ j, (((w.alloc (.cells #[.int .i64 a, .int .i64 b] 32)).alloc (.cells #[.int .i64 0, .int .i64 0] 32)).alloc (.cells #[.int .i64 x, .int .i64 y] 32)).frozen? ⟨g, j, none⟩ = false := BG.out.ice
  have p0 : (((w.alloc (.cells #[.int .i64 a, .int .i64 b] 32)).alloc (.cells #[.int .i64 0, .int .i64 0] 32)).alloc (.cells #[.int .i64 x, .int .i64 y] 32)).cell? ⟨w.heap.size, 0, none⟩ = some (.int .i64 a) := (((Box.made w (prL a b) 32 w.heap.size rfl).alloc _).alloc _).cell 0 (by simp)
  have p1 : (((w.alloc (.cells #[.int .i64 a, .int .i64 b] 32)).alloc (.cells #[.int .i64 0, .int .i64 0] 32)).alloc (.cells #[.int .i64 x, .int .i64 y] 32)).cell? ⟨w.heap.size, 1, none⟩ = some (.int .i64 b) := (((Box.made w (prL a b) 32 w.heap.size rfl).alloc _).alloc _).cell 1 (by simp)
  have r0 : (((((w.alloc (.cells #[.int .i64 a, .int .i64 b] 32)).alloc (.cells #[.int .i64 0, .int .i64 0] 32)).alloc (.cells #[.int .i64 x, .int .i64 y] 32)).setCell ⟨g, 0, none⟩ (.int .i64 a)).setCell ⟨g, 1, none⟩ (.int .i64 b)).cell? ⟨w.heap.size + 1, 0, none⟩ = some (.int .i64 0) := BR4.out.cell 0 (by simp)
  have r1 : ((((((w.alloc (.cells #[.int .i64 a, .int .i64 b] 32)).alloc (.cells #[.int .i64 0, .int .i64 0] 32)).alloc (.cells #[.int .i64 x, .int .i64 y] 32)).setCell ⟨g, 0, none⟩ (.int .i64 a)).setCell ⟨g, 1, none⟩ (.int .i64 b)).setCell ⟨w.heap.size + 1, 0, none⟩ (.int .i64 x)).cell? ⟨w.heap.size + 1, 1, none⟩ = some (.int .i64 0) := (BR4.out.set 0 (by simp) (.int .i64 x)).cell 1 (by simp)
  have ri : ∀ j, (((((w.alloc (.cells #[.int .i64 a, .int .i64 b] 32)).alloc (.cells #[.int .i64 0, .int .i64 0] 32)).alloc (.cells #[.int .i64 x, .int .i64 y] 32)).setCell ⟨g, 0, none⟩ (.int .i64 a)).setCell ⟨g, 1, none⟩ (.int .i64 b)).frozen? ⟨w.heap.size + 1, j, none⟩ = false := BR4.out.ice
  have l0 : (((((w.alloc (.cells #[.int .i64 a, .int .i64 b] 32)).alloc (.cells #[.int .i64 0, .int .i64 0] 32)).alloc (.cells #[.int .i64 x, .int .i64 y] 32)).setCell ⟨g, 0, none⟩ (.int .i64 a)).setCell ⟨g, 1, none⟩ (.int .i64 b)).cell? ⟨w.heap.size + 1 + 1, 0, none⟩ = some (.int .i64 x) := BL4.out.cell 0 (by simp)
  have l1 : (((((w.alloc (.cells #[.int .i64 a, .int .i64 b] 32)).alloc (.cells #[.int .i64 0, .int .i64 0] 32)).alloc (.cells #[.int .i64 x, .int .i64 y] 32)).setCell ⟨g, 0, none⟩ (.int .i64 a)).setCell ⟨g, 1, none⟩ (.int .i64 b)).cell? ⟨w.heap.size + 1 + 1, 1, none⟩ = some (.int .i64 y) := BL4.out.cell 1 (by simp)
  have TW5 := Lib.hid (touch_past (touch_past TW.out (g := w.heap.size + 1) (by omega) 0 (.int .i64 x)) (g := w.heap.size + 1) (by omega) 1 (.int .i64 y))
  have BG5 := Lib.hid ((BG4.out.other (ga := w.heap.size + 1) (by omega) 0 (.int .i64 x)).other (ga := w.heap.size + 1) (by omega) 1 (.int .i64 y))
  have BR5 := Lib.hid ((BR4.out.set 0 (by simp) (.int .i64 x)).set 1 (by simp) (.int .i64 y))
  clear hB TW BG4 BR4 BL4 BG BR BL
  go_enter Tryd.func42, Tryd.ntmps42
  go_wp2
  show bodyPost _ _ _ _ _ ((((((((w.alloc (.cells #[.int .i64 a, .int .i64 b] 32)).alloc (.cells #[.int .i64 0, .int .i64 0] 32)).alloc (.cells #[.int .i64 x, .int .i64 y] 32)).setCell ⟨g, 0, none⟩ (.int .i64 a)).setCell ⟨g, 1, none⟩ (.int .i64 b))).setCell ⟨w.heap.size + 1, 0, none⟩ (.int .i64 x)).setCell ⟨w.heap.size + 1, 1, none⟩ (.int .i64 y))
  generalize ((((((((w.alloc (.cells #[.int .i64 a, .int .i64 b] 32)).alloc (.cells #[.int .i64 0, .int .i64 0] 32)).alloc (.cells #[.int .i64 x, .int .i64 y] 32)).setCell ⟨g, 0, none⟩ (.int .i64 a)).setCell ⟨g, 1, none⟩ (.int .i64 b))).setCell ⟨w.heap.size + 1, 0, none⟩ (.int .i64 x)).setCell ⟨w.heap.size + 1, 1, none⟩ (.int .i64 y)) = WE at *
  have q0 : WE.cell? ⟨w.heap.size + 1, 0, none⟩ = some (.int .i64 x) := BR5.out.cell 0 (by simp)
  have q1 : WE.cell? ⟨w.heap.size + 1, 1, none⟩ = some (.int .i64 y) := BR5.out.cell 1 (by simp)
  refine bodyPost_ret_by (v := prV x y) ?_ rfl ⟨rfl, BG5.out, TW5.out⟩
  simp [results, Tryd.f42, go_sem, q0, q1]

end Go.Proofs.YtggfmimnmpanbaaDoor
