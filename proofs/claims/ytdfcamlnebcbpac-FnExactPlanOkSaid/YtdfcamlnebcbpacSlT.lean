/- What this text proves: the contracts of the laws' own functions over a list of slots that was handed to them: its size, its copy. -/
import Derived.Test.YtdfcamlnebcbpacSlS
import Derived.Test.YtdfcamlnebcbpacGro
import Derived.Laws.MakeOwn
import Derived.Deep.LoopGhost
namespace Go.Proofs.Ytdfcamlnebcbpac
open Go.ChangeShapes Go.WideShapes Go.ChangeAt Go.RowKit
set_option linter.unusedVariables false


theorem sz_sls (A : Option Addr) (m c L : Nat) (hm : m ≤ maxLen) (hL : L ≤ 1048576) (w : World) :
    Calls Try.prog 9 #[.slice A m c, .int .i64 (L : Int)] w fun e w' => e = .returned (.int .i64 (if m ≤ L then (L : Int) - (m : Int) else -1)) ∧ w = w' := by
  have hl' : m ≤ 9223372036854775807 := by unfold maxLen at hm; omega
  by_cases h : m ≤ L
  · rw [if_pos h]
    have hd0 : decide ((L : Int) - (m : Int) < 0) = false := by simp; omega
    go_enter Try.func9, Try.ntmps9
    go_wp2
    go_ret
    exact ⟨rfl, rfl⟩
  · rw [if_neg h]
    have hd0 : decide ((L : Int) - (m : Int) < 0) = true := by simp; omega
    go_enter Try.func9, Try.ntmps9
    go_wp2
    go_ret
    exact ⟨rfl, rfl⟩
theorem take_sl (xs : List Value) (j : Nat) (a0 a1 : Value) (h : j + 2 ≤ xs.length) : (((xs.set (j) a0).set (j + 1) a1)).take (j + 2) = xs.take j ++ [a0, a1] := by
  apply List.ext_getElem?
  intro i
  rw [List.getElem?_append, List.length_take, Nat.min_eq_left (by omega)]
  by_cases h1 : i < j
  · rw [if_pos h1, List.getElem?_take_of_lt (by omega), List.getElem?_set_ne (by omega), List.getElem?_set_ne (by omega), List.getElem?_take_of_lt h1]
  · rw [if_neg h1]
    by_cases h2 : i < j + 2
    · rw [List.getElem?_take_of_lt h2]
      rcases (show i = j ∨ i = j + 1 by omega) with rfl | rfl
      · rw [List.getElem?_set_ne (by omega), List.getElem?_set_self (by first | omega | (simp only [List.length_set]; omega))]; simp
      · rw [List.getElem?_set_self (by first | omega | (simp only [List.length_set]; omega))]; simp
    · rw [List.getElem?_eq_none (by simp; omega), List.getElem?_eq_none (by simp; omega)]
/-- A slice of n in the making: its cells. -/
def RowSl (w : World) (base g n : Nat) (xs : List Value) : Prop := w.ownsRow base 78 2 (.slice (some ⟨g, 0, none⟩) n n) n xs ∧ xs.length = n * 2
theorem RowSl.more {w w' : World} {base g n : Nat} {xs : List Value} (h : RowSl w base g n xs) (hb : Below w.heap.size w w') : RowSl w' base g n xs :=
  ⟨World.ownsRow.kept (row := none) h.1 ⟨hb.os, hb.tape, hb.output, hb.size, fun k hk _ => hb.block k hk⟩ (.inr (by simp [Value.ownBlock])), h.2⟩
theorem RowSl.store {w : World} {base g n : Nat} {xs : List Value} (h : RowSl w base g n xs) (j : Nat) (u : Value) : RowSl (w.setCell ⟨g, j, none⟩ u) base g n (xs.set j u) := ⟨(World.ownsRow.stored h.1 j u).1, by rw [List.length_set]; exact h.2⟩
theorem RowSl.cell {w : World} {base g n : Nat} {xs : List Value} (h : RowSl w base g n xs) (j : Nat) (hj : j < n * 2) : ∃ u, w.cell? ⟨g, j, none⟩ = some u :=
  ⟨xs[j]'(by rw [h.2]; exact hj), by rw [World.ownsRow.cellAt h.1 j hj]; exact List.getElem?_eq_getElem _⟩
theorem make_sls (W : World) (n : Nat) (hn : n ≤ 1048576) : ∃ cs, (Instr.makeSlice 33 (.int .i64 (n : Int)) (.int .i64 (n : Int))).run Try.prog W = .ok (.slice (some ⟨W.heap.size, 0, none⟩) n n) (W.alloc (.cells cs 78)) ∧ RowSl (W.alloc (.cells cs 78)) W.heap.size W.heap.size n cs.toList := by
  obtain ⟨i, hi, hz0, hz1, hz2⟩ := info_parts info_sl
  have h := run_make (P := Try.prog) W 33 78 i (.agg #[.int .i64 0, .int .i64 0]) Try.underlying33 hi hz0 .i64 .i64 n n (by omega) (by omega) (by rw [hz2]; omega) (by omega)
  rw [hz1] at h
  refine ⟨_, by simpa using h, World.ownsRow_lit (base := W.heap.size) (e := 78) (size := 2) W _ n (Nat.le_refl _) (by unfold maxLen; omega) (by rw [size_madeCells]), by rw [Array.length_toList, size_madeCells]⟩

set_option maxHeartbeats 2000000 in
theorem to_sls (A : Option Addr) (l : List Sl) (c : Nat) (hl : l.length ≤ 1048576) (w : World) (h : LsI 2 w w.heap.size A (l.map slC)) :
    Calls Try.prog 13 #[.slice A l.length c] w fun e w' => ∃ v, e = .returned v ∧ OwnSl w' w.heap.size v l ∧ Below w.heap.size w w' := by
  obtain ⟨cs, hmk, hrow0⟩ := make_sls w l.length hl
  have HR0 := Lib.hid hrow0
  have HB0 := Lib.hid ((Below.refl _ w).alloc (Nat.le_refl _) (.cells cs 78))
  have HI := Lib.hid (fun W (hb : Below w.heap.size w W) => h.more hb)
  have HT := Lib.hid (fun x0 x1 W => to_sl x0 x1 W)
  clear h hrow0
  go_enter Try.func13, Try.ntmps13
  go_wp2
  clear hmk
  go_loopg [4] l.length (fun gh v4 wx => ∃ (k : Nat) (xs : List Value), k ≤ l.length ∧ gh = l.length - k ∧ v4 = .int .i64 (k : Int) ∧ xs.take (k * 2) = ((l.take k).map slC).flatten ∧ RowSl wx w.heap.size w.heap.size l.length xs ∧ Below w.heap.size w wx)
  case atStart => exact ⟨0, cs.toList, by omega, rfl, rfl, by simp, HR0.out, HB0.out⟩
  case round =>
    obtain ⟨k, xs, hk, rfl, rfl, htk, hrow, hbel⟩ := hrel
    have HTK := Lib.hid htk
    have HB := Lib.hid hbel
    have HR := Lib.hid hrow
    clear htk hrow
    by_cases hlt : k < l.length
    · have hd : decide (k < l.length) = true := by simp; omega
      have hd' : decide ((k : Int) < (l.length : Int)) = true := by simp; omega
      obtain ⟨b, off, rfl, hb, hc⟩ := slCellsI (b := 0) (off := 0) (HI.out _ hbel) (by omega)
      obtain ⟨c0, c1⟩ := hc k hlt
      have HLK := Lib.hid (show (((xs.set (k * 2) (.int .i64 l[k].1)).set (k * 2 + 1) (.int .i64 l[k].2))).take ((k + 1) * 2) = ((l.take (k + 1)).map slC).flatten from by
        rw [show (k + 1) * 2 = k * 2 + 2 by omega, take_sl _ _ _ _ (by have := HR.out.2; omega), HTK.out, List.take_succ_eq_append_getElem hlt, List.map_append, List.flatten_append]
        simp)
      clear hc hbel
      generalize l[k].1 = x0 at *
      generalize l[k].2 = x1 at *
      go_wp2_with fail
      refine (HT.out _ _ _).mono ?_
      rintro e w2 ⟨rfl, hb2⟩
      have R2 := HR.out.more hb2
      have HB2 := Lib.hid (HB.out.trans (hb2.mono HB.out.size))
      clear hb2 c0 c1
      obtain ⟨u0, d0⟩ := R2.cell (k * 2) (by omega)
      obtain ⟨u1, d1⟩ := (R2.store (k * 2) (.int .i64 x0)).cell (k * 2 + 1) (by omega)
      have hf := World.ownsRow.frozenAt R2.1
      have HST := Lib.hid ((R2.store (k * 2) (.int .i64 x0)).store (k * 2 + 1) (.int .i64 x1))
      clear R2
      go_wp2
      go_roundg (l.length - (k + 1))
      case measure => omega
      case rel => exact ⟨k + 1, _, by omega, rfl, by go_num, HLK.out, HST.out, ((HB2.out.setCell (p := ⟨w.heap.size, k * 2, none⟩) (Nat.le_refl _) _).setCell (p := ⟨w.heap.size, k * 2 + 1, none⟩) (Nat.le_refl _) _)⟩
    · have hd : decide (k < l.length) = false := by simp; omega
      have hd' : decide ((k : Int) < (l.length : Int)) = false := by simp; omega
      obtain rfl : k = l.length := by omega
      have HO := Lib.hid (show OwnSl wr w.heap.size (.slice (some ⟨w.heap.size, 0, none⟩) l.length l.length) l from by
        have h := HTK.out
        rw [List.take_of_length_le (Nat.le_of_eq HR.out.2), List.take_of_length_le (Nat.le_refl _)] at h
        have h1 := HR.out.1
        rw [h] at h1
        exact OwnR.toO (E := 78) ⟨by rw [List.length_map]; exact h1, sl_len l⟩)
      go_wp2
      go_ret
      exact ⟨_, rfl, HO.out, HB.out⟩
end Go.Proofs.Ytdfcamlnebcbpac
