/- What this text proves: the contracts of the cursor that draws read their bytes from: each step returns a number of the range that it is asked for, moves the cursor, and writes into nothing else. -/
import Derived.Test.YtdfcamlnebcbpaaCode
import Derived.Laws.BitsLemmas
namespace Go.Proofs.Ytdfcamlnebcbpaa
open Go.ChangeShapes Go.WideShapes Go.ChangeAt Go.RowKit
set_option linter.unusedVariables false

/-- Block g holds a cursor. -/
def CurB (w : World) (g : Nat) : Prop := ∃ (A : Option Addr) (n c i : Nat) (h : Int),
  w.heap[g]? = some (.cells #[.slice A n c, .int .i64 (i : Int), .int .i64 h] 70 (0, 0)) ∧ i ≤ n ∧ n ≤ 1048576 ∧ CodeOk w g A n
def ByteRes (g : Nat) (w : World) (e : Ending) (w' : World) : Prop := ∃ x : Nat, x ≤ 255 ∧ e = .returned (.int .i64 (x : Int)) ∧ CurB w' g ∧ w.grownBy w' (some g)

theorem and255 (y : Int) : ∃ x : Nat, x ≤ 255 ∧ bits .and .i64 y 255 = (x : Int) := by
  have hx : ((BitVec.ofInt 64 y) &&& (BitVec.ofInt 64 255)).toNat ≤ 255 := by
    rw [BitVec.toNat_and]
    exact Nat.and_le_right
  refine ⟨((BitVec.ofInt 64 y) &&& (BitVec.ofInt 64 255)).toNat, hx, ?_⟩
  show IntKind.i64.wrap _ = _
  rw [IntKind.wrap_i64]
  show ((((BitVec.ofInt 64 y) &&& (BitVec.ofInt 64 255)).toNat : Int) + 9223372036854775808) % 18446744073709551616 - 9223372036854775808 = _
  omega

theorem set_2 {w : World} {g : Nat} {a b c : Value} {T : TypeId} (h : w.heap[g]? = some (.cells #[a, b, c] T (0, 0))) (v : Value) : (w.setCell ⟨g, 2, none⟩ v).heap[g]? = some (.cells #[a, b, v] T (0, 0)) := by
  simp [World.setCell, Array.getElem?_modify, h]
theorem set_1 {w : World} {g : Nat} {a b c : Value} {T : TypeId} (h : w.heap[g]? = some (.cells #[a, b, c] T (0, 0))) (v : Value) : (w.setCell ⟨g, 1, none⟩ v).heap[g]? = some (.cells #[a, v, c] T (0, 0)) := by
  simp [World.setCell, Array.getElem?_modify, h]
theorem grown_set {w0 w : World} {g : Nat} (hg : w0.grownBy w (some g)) (j : Nat) (v : Value) : w0.grownBy (w.setCell ⟨g, j, none⟩ v) (some g) :=
  ⟨hg.os, hg.tape, hg.output, by simpa [World.setCell] using hg.size, fun k hk hne => by
    have e : (w.setCell ⟨g, j, none⟩ v).heap[k]? = w.heap[k]? := by
      have hkg : ¬ g = k := fun h => hne (by rw [h])
      simp [World.setCell, Array.getElem?_modify, hkg]
    rw [e]
    exact hg.block k hk hne⟩
theorem grown_draws {w0 w : World} {r : Option Nat} (hg : w0.grownBy w r) (n : Nat) : w0.grownBy (w.drewN n) r := ⟨hg.os, hg.tape, hg.output, hg.size, hg.block⟩
theorem CodeOk.kept {w w' : World} {g : Nat} {A : Option Addr} {n : Nat} (h : CodeOk w g A n) (hg : w.grownBy w' (some g)) (hlt : g ≤ w.heap.size) : CodeOk w' g A n :=
  h.more ⟨hg.os, hg.tape, hg.output, hg.size, fun k hk => hg.block k (by omega) (fun e => by injection e with e; omega)⟩
theorem heap_lt {w : World} {g : Nat} {o : Obj} (h : w.heap[g]? = some o) : g < w.heap.size := by
  rcases Nat.lt_or_ge g w.heap.size with h1 | h1
  · exact h1
  · rw [Array.getElem?_eq_none h1] at h; cases h

set_option maxHeartbeats 2000000 in
theorem byte_any (w : World) (g : Nat) (hcur : CurB w g) : Calls Try.prog 58 #[.pointer (some ⟨g, 0, none⟩)] w (ByteRes g w) := by
  obtain ⟨A, n, c, i, h, hg, hi, hn, hcode⟩ := hcur
  have glt := heap_lt hg
  have c0 : w.cell? ⟨g, 0, none⟩ = some (.slice A n c) := cell_of_row w g 0 _ _ _ hg
  have c1 : w.cell? ⟨g, 1, none⟩ = some (.int .i64 (i : Int)) := cell_of_row w g 1 _ _ _ hg
  have c2 : w.cell? ⟨g, 2, none⟩ = some (.int .i64 h) := cell_of_row w g 2 _ _ _ hg
  have fz : ∀ j, w.frozen? ⟨g, j, none⟩ = false := fun j => by simp [World.frozen?, hg]
  have Hg := Lib.hid hg
  have Hcode := Lib.hid hcode
  clear hg hcode
  go_enter Try.func58, Try.ntmps58
  go_wp2
  go_quiet (fail)
  go_wp2
  generalize wrap64 (wrap64 (h * 6364136223846793005) + 1442695040888963407) = V
  obtain ⟨y, hy, ey⟩ := and255 (bits .xor .i64 (V / 8589934592) (V / 35184372088832))
  rw [ey]
  clear ey
  have hG1 := grown_draws (grown_set (World.grownBy.refl w (some g)) 2 (.int .i64 V)) nq
  have hH1 : ((w.setCell ⟨g, 2, none⟩ (.int .i64 V)).drewN nq).heap[g]? = some (.cells #[.slice A n c, .int .i64 (i : Int), .int .i64 V] 70 (0, 0)) := set_2 Hg.out _
  have hC1 := Hcode.out.kept hG1 (by omega)
  generalize (w.setCell ⟨g, 2, none⟩ (.int .i64 V)).drewN nq = w1 at *
  clear c0 c1 c2 fz
  have glt1 := heap_lt hH1
  have c0 : w1.cell? ⟨g, 0, none⟩ = some (.slice A n c) := cell_of_row w1 g 0 _ _ _ hH1
  have c1 : w1.cell? ⟨g, 1, none⟩ = some (.int .i64 (i : Int)) := cell_of_row w1 g 1 _ _ _ hH1
  have fz : ∀ j, w1.frozen? ⟨g, j, none⟩ = false := fun j => by simp [World.frozen?, hH1]
  have HG1 := Lib.hid hG1
  have HH1 := Lib.hid hH1
  clear hG1 hH1
  by_cases hlt : i < n
  · rcases hC1 with h0 | ⟨b, off, rfl, hb, hcell⟩
    · omega
    · have HC1 := Lib.hid (show CodeOk w1 g (some ⟨b, off, none⟩) n from .inr ⟨b, off, rfl, hb, hcell⟩)
      obtain ⟨x, hx, hxc⟩ := hcell i hlt
      clear hcell
      have hd : decide (i < n) = true := by simp; omega
      go_quiet (fail)
      go_wp2
      go_quiet (fail)
      go_wp2
      go_ret
      obtain ⟨z, hz, ez⟩ := and255 ((y : Int) + (x : Int))
      refine ⟨z, hz, by rw [← ez]; rfl, ⟨some ⟨b, off, none⟩, n, c, i + 1, V, ?_, by omega, hn, HC1.out.kept (grown_set (grown_draws (World.grownBy.refl w1 (some g)) _) _ _) (by omega)⟩, grown_set (grown_draws HG1.out _) _ _⟩
      rw [show ((i + 1 : Nat) : Int) = (i : Int) + 1 from by omega]
      exact set_1 HH1.out _
  · have HC1 := Lib.hid hC1
    clear hC1
    have hd : decide (i < n) = false := by simp; omega
    go_quiet (fail)
    go_wp2
    go_ret
    exact ⟨y, hy, rfl, ⟨A, n, c, i, V, HH1.out, hi, hn, HC1.out.kept (grown_draws (World.grownBy.refl w1 (some g)) _) (by omega)⟩, grown_draws HG1.out _⟩

theorem CurB.lt {w : World} {g : Nat} (h : CurB w g) : g < w.heap.size := by
  obtain ⟨_, _, _, _, _, hg, _⟩ := h
  exact heap_lt hg
theorem CurB.more {w w' : World} {g B : Nat} (h : CurB w g) (hb : Below B w w') (hlt : g < B) : CurB w' g := by
  obtain ⟨A, n, c, i, x, hg, hi, hn, hc⟩ := h
  exact ⟨A, n, c, i, x, (hb.block g hlt).trans hg, hi, hn, hc.more (hb.mono (by omega))⟩
theorem grown_trans {w0 w1 w2 : World} {r : Option Nat} (h : w0.grownBy w1 r) (k : w1.grownBy w2 r) : w0.grownBy w2 r :=
  ⟨k.os.trans h.os, k.tape.trans h.tape, k.output.trans h.output, Nat.le_trans h.size k.size, fun i hi hne => (k.block i (Nat.lt_of_lt_of_le hi h.size) hne).trans (h.block i hi hne)⟩
theorem grown_then_below {w0 w1 w2 : World} {r : Option Nat} (h : w0.grownBy w1 r) {B : Nat} (k : Below B w1 w2) (hB : w0.heap.size ≤ B) : w0.grownBy w2 r :=
  ⟨k.os.trans h.os, k.tape.trans h.tape, k.output.trans h.output, Nat.le_trans h.size k.size, fun i hi hne => (k.block i (by omega)).trans (h.block i hi hne)⟩

/-- A number from 0 to m - 1; 0 where m is not above 0. -/
def NumRes (m : Int) (g : Nat) (w : World) (e : Ending) (w' : World) : Prop := ∃ x : Int, 0 ≤ x ∧ (0 < m → x < m) ∧ (m ≤ 0 → x = 0) ∧ e = .returned (.int .i64 x) ∧ CurB w' g ∧ w.grownBy w' (some g)

set_option maxHeartbeats 1000000 in
theorem below_any (w : World) (g : Nat) (m : Int) (hm : m ≤ 4611686018427387904) (hcur : CurB w g) : Calls Try.prog 49 #[.pointer (some ⟨g, 0, none⟩), .int .i64 m] w (NumRes m g w) := by
  by_cases h0 : m ≤ 0
  · have hd : decide (m ≤ 0) = true := by simp; omega
    have H0 := Lib.hid h0
    clear h0
    go_enter Try.func49, Try.ntmps49
    go_wp2
    go_ret
    exact ⟨0, by omega, fun h => h, fun _ => rfl, rfl, hcur, World.grownBy.refl _ _⟩
  · have hd : decide (m ≤ 0) = false := by simp; omega
    have hm0 : 1 ≤ m := by omega
    have hne : m ≠ 0 := by omega
    clear h0
    by_cases h1 : m ≤ 256
    · have hd1 : decide (m ≤ 256) = true := by simp; omega
      go_enter Try.func49, Try.ntmps49
      go_wp2_with fail
      refine (byte_any _ g hcur).mono ?_
      rintro e w1 ⟨x, hx, rfl, hc1, hg1⟩
      go_wp2
      go_ret
      exact ⟨(x : Int) % m, Int.emod_nonneg _ (by omega), fun _ => Int.emod_lt_of_pos _ (by omega), fun h => by omega, rfl, hc1, hg1⟩
    · have hd1 : decide (m ≤ 256) = false := by simp; omega
      clear h1
      go_enter Try.func49, Try.ntmps49
      go_wp2_with fail
      refine (byte_any _ g hcur).mono ?_
      rintro e w1 ⟨x1, hx1, rfl, hc1, hg1⟩
      go_wp2_with fail
      refine (byte_any _ g hc1).mono ?_
      rintro e w2 ⟨x2, hx2, rfl, hc2, hg2⟩
      go_wp2_with fail
      refine (byte_any _ g hc2).mono ?_
      rintro e w3 ⟨x3, hx3, rfl, hc3, hg3⟩
      go_wp2_with fail
      refine (byte_any _ g hc3).mono ?_
      rintro e w4 ⟨x4, hx4, rfl, hc4, hg4⟩
      go_wp2
      go_ret
      exact ⟨((x1 : Int) * 16777216 + (x2 : Int) * 65536 + (x3 : Int) * 256 + (x4 : Int)) % m, Int.emod_nonneg _ (by omega), fun _ => Int.emod_lt_of_pos _ (by omega), fun h => by omega, rfl, hc4,
        grown_trans (grown_trans (grown_trans hg1 hg2) hg3) hg4⟩
end Go.Proofs.Ytdfcamlnebcbpaa
