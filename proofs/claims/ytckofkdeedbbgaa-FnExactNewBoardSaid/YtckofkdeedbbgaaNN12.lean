/- What this text proves: the parts DnT, WtT, Br, MarkT of the proof, each under its own words. -/
import Derived.Test.YtckofkdeedbbgaaNN07
import Derived.Test.YtckofkdeedbbgaaNN01
import Derived.Laws.MakeOwn
import Derived.Deep.LoopGhost
import Derived.Test.YtckofkdeedbbgaaNN10
import Derived.Test.YtckofkdeedbbgaaNN11
import Derived.Test.YtckofkdeedbbgaaNN00
import Derived.WalkKit
import Derived.LoopTactic
import Derived.IntWalk
import Derived.OwnWalk
import Derived.Laws.AppendOwn
import Derived.Laws.OwnMore
import Derived.Lib.Hide
import Derived.Laws.Concat
/- What this text proves: the contracts of the laws' own functions over a list of orders that are done that was handed to them: its size, its copy. -/
namespace Go.Proofs.Ytckofkdeedbbgaa
open Go.ChangeShapes Go.WideShapes Go.ChangeAt Go.RowKit
set_option linter.unusedVariables false


theorem take_dn (xs : List Value) (j : Nat) (a0 a1 a2 : Value) (h : j + 3 ≤ xs.length) : ((((xs.set (j) a0).set (j + 1) a1).set (j + 2) a2)).take (j + 3) = xs.take j ++ [a0, a1, a2] := by
  apply List.ext_getElem?
  intro i
  rw [List.getElem?_append, List.length_take, Nat.min_eq_left (by omega)]
  by_cases h1 : i < j
  · rw [if_pos h1, List.getElem?_take_of_lt (by omega), List.getElem?_set_ne (by omega), List.getElem?_set_ne (by omega), List.getElem?_set_ne (by omega), List.getElem?_take_of_lt h1]
  · rw [if_neg h1]
    by_cases h2 : i < j + 3
    · rw [List.getElem?_take_of_lt h2]
      rcases (show i = j ∨ i = j + 1 ∨ i = j + 2 by omega) with rfl | rfl | rfl
      · rw [List.getElem?_set_ne (by omega), List.getElem?_set_ne (by omega), List.getElem?_set_self (by first | omega | (simp only [List.length_set]; omega))]; simp
      · rw [List.getElem?_set_ne (by omega), List.getElem?_set_self (by first | omega | (simp only [List.length_set]; omega))]; simp
      · rw [List.getElem?_set_self (by first | omega | (simp only [List.length_set]; omega))]; simp
    · rw [List.getElem?_eq_none (by simp; omega), List.getElem?_eq_none (by simp; omega)]
/-- A slice of n in the making: its cells. -/
def RowDn (w : World) (base g n : Nat) (xs : List Value) : Prop := w.ownsRow base 45 3 (.slice (some ⟨g, 0, none⟩) n n) n xs ∧ xs.length = n * 3
theorem RowDn.more {w w' : World} {base g n : Nat} {xs : List Value} (h : RowDn w base g n xs) (hb : Below w.heap.size w w') : RowDn w' base g n xs :=
  ⟨World.ownsRow.kept (row := none) h.1 ⟨hb.os, hb.tape, hb.output, hb.size, fun k hk _ => hb.block k hk⟩ (.inr (by simp [Value.ownBlock])), h.2⟩
theorem RowDn.store {w : World} {base g n : Nat} {xs : List Value} (h : RowDn w base g n xs) (j : Nat) (u : Value) : RowDn (w.setCell ⟨g, j, none⟩ u) base g n (xs.set j u) := ⟨(World.ownsRow.stored h.1 j u).1, by rw [List.length_set]; exact h.2⟩
theorem RowDn.cell {w : World} {base g n : Nat} {xs : List Value} (h : RowDn w base g n xs) (j : Nat) (hj : j < n * 3) : ∃ u, w.cell? ⟨g, j, none⟩ = some u :=
  ⟨xs[j]'(by rw [h.2]; exact hj), by rw [World.ownsRow.cellAt h.1 j hj]; exact List.getElem?_eq_getElem _⟩
theorem make_dns (W : World) (n : Nat) (hn : n ≤ 1048576) : ∃ cs, (Instr.makeSlice 27 (.int .i64 (n : Int)) (.int .i64 (n : Int))).run Try.prog W = .ok (.slice (some ⟨W.heap.size, 0, none⟩) n n) (W.alloc (.cells cs 45)) ∧ RowDn (W.alloc (.cells cs 45)) W.heap.size W.heap.size n cs.toList := by
  obtain ⟨i, hi, hz0, hz1, hz2⟩ := info_parts info_dn
  have h := run_make (P := Try.prog) W 27 45 i (.agg #[.int .i64 0, .int .i64 0, .int .i64 0]) Try.underlying27 hi hz0 .i64 .i64 n n (by omega) (by omega) (by rw [hz2]; omega) (by omega)
  rw [hz1] at h
  refine ⟨_, by simpa using h, World.ownsRow_lit (base := W.heap.size) (e := 45) (size := 3) W _ n (Nat.le_refl _) (by unfold maxLen; omega) (by rw [size_madeCells]), by rw [Array.length_toList, size_madeCells]⟩

end Go.Proofs.Ytckofkdeedbbgaa
/- What this text proves: the contracts of the laws' own functions over a list of orders that wait that was handed to them: its size, its copy. -/
namespace Go.Proofs.Ytckofkdeedbbgaa
open Go.ChangeShapes Go.WideShapes Go.ChangeAt Go.RowKit
set_option linter.unusedVariables false


theorem take_wt (xs : List Value) (j : Nat) (a0 a1 a2 a3 a4 : Value) (h : j + 5 ≤ xs.length) : ((((((xs.set (j) a0).set (j + 1) a1).set (j + 2) a2).set (j + 3) a3).set (j + 4) a4)).take (j + 5) = xs.take j ++ [a0, a1, a2, a3, a4] := by
  apply List.ext_getElem?
  intro i
  rw [List.getElem?_append, List.length_take, Nat.min_eq_left (by omega)]
  by_cases h1 : i < j
  · rw [if_pos h1, List.getElem?_take_of_lt (by omega), List.getElem?_set_ne (by omega), List.getElem?_set_ne (by omega), List.getElem?_set_ne (by omega), List.getElem?_set_ne (by omega), List.getElem?_set_ne (by omega), List.getElem?_take_of_lt h1]
  · rw [if_neg h1]
    by_cases h2 : i < j + 5
    · rw [List.getElem?_take_of_lt h2]
      rcases (show i = j ∨ i = j + 1 ∨ i = j + 2 ∨ i = j + 3 ∨ i = j + 4 by omega) with rfl | rfl | rfl | rfl | rfl
      · rw [List.getElem?_set_ne (by omega), List.getElem?_set_ne (by omega), List.getElem?_set_ne (by omega), List.getElem?_set_ne (by omega), List.getElem?_set_self (by first | omega | (simp only [List.length_set]; omega))]; simp
      · rw [List.getElem?_set_ne (by omega), List.getElem?_set_ne (by omega), List.getElem?_set_ne (by omega), List.getElem?_set_self (by first | omega | (simp only [List.length_set]; omega))]; simp
      · rw [List.getElem?_set_ne (by omega), List.getElem?_set_ne (by omega), List.getElem?_set_self (by first | omega | (simp only [List.length_set]; omega))]; simp
      · rw [List.getElem?_set_ne (by omega), List.getElem?_set_self (by first | omega | (simp only [List.length_set]; omega))]; simp
      · rw [List.getElem?_set_self (by first | omega | (simp only [List.length_set]; omega))]; simp
    · rw [List.getElem?_eq_none (by simp; omega), List.getElem?_eq_none (by simp; omega)]
/-- A slice of n in the making: its cells. -/
def RowWt (w : World) (base g n : Nat) (xs : List Value) : Prop := w.ownsRow base 43 5 (.slice (some ⟨g, 0, none⟩) n n) n xs ∧ xs.length = n * 5
theorem RowWt.more {w w' : World} {base g n : Nat} {xs : List Value} (h : RowWt w base g n xs) (hb : Below w.heap.size w w') : RowWt w' base g n xs :=
  ⟨World.ownsRow.kept (row := none) h.1 ⟨hb.os, hb.tape, hb.output, hb.size, fun k hk _ => hb.block k hk⟩ (.inr (by simp [Value.ownBlock])), h.2⟩
theorem RowWt.store {w : World} {base g n : Nat} {xs : List Value} (h : RowWt w base g n xs) (j : Nat) (u : Value) : RowWt (w.setCell ⟨g, j, none⟩ u) base g n (xs.set j u) := ⟨(World.ownsRow.stored h.1 j u).1, by rw [List.length_set]; exact h.2⟩
theorem RowWt.cell {w : World} {base g n : Nat} {xs : List Value} (h : RowWt w base g n xs) (j : Nat) (hj : j < n * 5) : ∃ u, w.cell? ⟨g, j, none⟩ = some u :=
  ⟨xs[j]'(by rw [h.2]; exact hj), by rw [World.ownsRow.cellAt h.1 j hj]; exact List.getElem?_eq_getElem _⟩
theorem make_wts (W : World) (n : Nat) (hn : n ≤ 1048576) : ∃ cs, (Instr.makeSlice 26 (.int .i64 (n : Int)) (.int .i64 (n : Int))).run Try.prog W = .ok (.slice (some ⟨W.heap.size, 0, none⟩) n n) (W.alloc (.cells cs 43)) ∧ RowWt (W.alloc (.cells cs 43)) W.heap.size W.heap.size n cs.toList := by
  obtain ⟨i, hi, hz0, hz1, hz2⟩ := info_parts info_wt
  have h := run_make (P := Try.prog) W 26 43 i (.agg #[.int .i64 0, .int .i64 0, .int .i64 0, .int .i64 0, .int .i64 0]) Try.underlying26 hi hz0 .i64 .i64 n n (by omega) (by omega) (by rw [hz2]; omega) (by omega)
  rw [hz1] at h
  refine ⟨_, by simpa using h, World.ownsRow_lit (base := W.heap.size) (e := 43) (size := 5) W _ n (Nat.le_refl _) (by unfold maxLen; omega) (by rw [size_madeCells]), by rw [Array.length_toList, size_madeCells]⟩

end Go.Proofs.Ytckofkdeedbbgaa
/- What this text proves: the contracts of the laws' szBoard and eqBoard. -/
namespace Go.Proofs.Ytckofkdeedbbgaa
open Go.ChangeShapes Go.WideShapes Go.ChangeAt Go.RowKit
set_option linter.unusedVariables false


def SzP (n L : Nat) (x : Int) : Prop := (n ≤ L ∧ x = ((L - n : Nat) : Int)) ∨ (L < n ∧ x = -1)
theorem szP_of {n L : Nat} {x : Int} (h : x = if n ≤ L then (L : Int) - (n : Int) else -1) : SzP n L x := by
  by_cases g : n ≤ L
  · rw [if_pos g] at h; exact .inl ⟨g, by omega⟩
  · rw [if_neg g] at h; exact .inr ⟨by omega, h⟩
theorem szP_of' {n L : Nat} {x : Int} (h : x = if n ≤ L then ((L - n : Nat) : Int) else -1) : SzP n L x := by
  by_cases g : n ≤ L
  · rw [if_pos g] at h; exact .inl ⟨g, h⟩
  · rw [if_neg g] at h; exact .inr ⟨by omega, h⟩
/-- How much of its data a board has. -/
def bdSum (b : Bd) : Nat := b.ps.length + b.ls.length + b.os.length + b.ds.length + (b.rs.length + totRc b.rs b.rs.length + b.xs.length) + b.qs.length
structure BdMax (b : Bd) : Prop where
  ps : b.ps.length ≤ maxLen
  ls : b.ls.length ≤ maxLen
  os : b.os.length ≤ maxLen
  ds : b.ds.length ≤ maxLen
  rs : b.rs.length ≤ maxLen
  ss : ∀ j (hj : j < b.rs.length), b.rs[j].2.2.2.size ≤ maxLen
  xs : b.xs.length ≤ maxLen
  qs : b.qs.length ≤ maxLen

/-- A board of the call's own. -/
structure OwnBd (w : World) (base : Nat) (v : Value) (b : Bd) : Prop where
  form : ∃ a : BdA, v = bdV b a ∧ OwnIn w base (.slice a.aP b.ps.length a.cP) b.ps ∧ OwnLm w base (.slice a.aL b.ls.length a.cL) b.ls ∧ OwnWt w base (.slice a.aO b.os.length a.cO) b.os ∧ OwnDn w base (.slice a.aD b.ds.length a.cD) b.ds ∧ OwnRo w base (roV b.r (.slice a.aR b.rs.length a.cR) (.slice a.aX b.xs.length a.cX)) b.r b.rs b.xs ∧ OwnIn w base (.slice a.aQ b.qs.length a.cQ) b.qs
theorem OwnBd.more {w w' : World} {base : Nat} {v : Value} {b : Bd} (h : OwnBd w base v b) (hb : Below w.heap.size w w') : OwnBd w' base v b := by
  obtain ⟨a, rfl, h1, h2, h3, h4, h5, h6⟩ := h.form
  exact ⟨a, rfl, LsO.more h1 hb, LsO.more h2 hb, LsO.more h3 hb, LsO.more h4 hb, h5.more hb, LsO.more h6 hb⟩
theorem OwnBd.lower {w : World} {base base' : Nat} {v : Value} {b : Bd} (h : OwnBd w base v b) (hb : base' ≤ base) : OwnBd w base' v b := by
  obtain ⟨a, rfl, h1, h2, h3, h4, h5, h6⟩ := h.form
  exact ⟨a, rfl, LsO.lower h1 hb, LsO.lower h2 hb, LsO.lower h3 hb, LsO.lower h4 hb, h5.lower hb, LsO.lower h6 hb⟩
theorem OwnBd.at {w : World} {base : Nat} {b : Bd} {v : Value} (h : OwnBd w base v b) : ∃ a, v = bdV b a ∧ BdAt w w.heap.size b a := by
  obtain ⟨a, rfl, h1, h2, h3, h4, h5, h6⟩ := h.form
  obtain ⟨A, c, A2, c2, he, g1, g2, _⟩ := h5.form
  simp at he
  obtain ⟨⟨rfl, rfl⟩, rfl, rfl⟩ := he
  exact ⟨a, rfl, LsO.ats h1, LsO.ats h2, LsO.ats h3, LsO.ats h4, LsO.ats g1, LsO.ats g2, LsO.ats h6⟩

set_option maxRecDepth 20000 in
set_option maxHeartbeats 2000000 in
theorem eq_bd (b : Bd) (hz : BdSz b) (v1 v2 : Value) (b1 b2 : Nat) (w : World) (h1 : OwnBd w b1 v1 b) (h2 : OwnBd w b2 v2 b) :
    Calls Try.prog 46 #[v1, v2] w fun e w' => e = .returned (.bool true) ∧ Below w.heap.size w w' := by
  obtain ⟨a1, rfl, p1, p2, p3, p4, p5, p6⟩ := h1.form
  obtain ⟨a2, rfl, q1, q2, q3, q4, q5, q6⟩ := h2.form
  have FX := (Fit.made w (bdL b a1) 32).more ((Below.refl _ _).alloc (Nat.le_refl _) (.cells (bdL b a2).toArray 32))
  have FY := Fit.made (w.alloc (.cells (bdL b a1).toArray 32)) (bdL b a2) 32
  rw [show (w.alloc (.cells (bdL b a1).toArray 32)).heap.size = w.heap.size + 1 by simp] at FY
  have HY := Lib.hid FY.box
  have HX := Lib.hid FX
  have H1 := Lib.hid (fun W (hb : Below w.heap.size w W) => eqIn_any W b1 b2 _ _ b.ps hz.ps (LsO.more p1 hb) (LsO.more q1 hb))
  have H2 := Lib.hid (fun W (hb : Below w.heap.size w W) => eqLm_any W b1 b2 _ _ b.ls hz.ls (LsO.more p2 hb) (LsO.more q2 hb))
  have H3 := Lib.hid (fun W (hb : Below w.heap.size w W) => eqWt_any W b1 b2 _ _ b.os hz.os (LsO.more p3 hb) (LsO.more q3 hb))
  have H4 := Lib.hid (fun W (hb : Below w.heap.size w W) => eqDn_any W b1 b2 _ _ b.ds hz.ds (LsO.more p4 hb) (LsO.more q4 hb))
  have H5 := Lib.hid (fun W (hb : Below w.heap.size w W) => eq_ro b.r b.rs b.xs hz.rs hz.xs _ _ b1 b2 W (p5.more hb) (q5.more hb))
  have H6 := Lib.hid (fun W (hb : Below w.heap.size w W) => eqIn_any W b1 b2 _ _ b.qs hz.qs (LsO.more p6 hb) (LsO.more q6 hb))
  clear h1 h2 p1 p2 p3 p4 p5 p6 q1 q2 q3 q4 q5 q6 FX FY hz
  go_enter Try.func46, Try.ntmps46
  have x0 := HX.out.box.cell 0 (by simp)
  have y0 := HY.out.cell 0 (by simp)
  have x1 := HX.out.box.cell 1 (by simp)
  have y1 := HY.out.cell 1 (by simp)
  go_wp2_with fail
  refine (H1.out _ HX.out.below).mono ?_
  rintro e w1 ⟨rfl, hb⟩
  replace HX := Lib.hid (HX.out.more hb)
  replace HY := Lib.hid (HY.out.more hb)
  clear hb x0 y0 x1 y1
  have x2 := HX.out.box.cell 2 (by simp)
  have y2 := HY.out.cell 2 (by simp)
  have x3 := HX.out.box.cell 3 (by simp)
  have y3 := HY.out.cell 3 (by simp)
  go_wp2_with fail
  refine (H2.out _ HX.out.below).mono ?_
  rintro e w2 ⟨rfl, hb⟩
  replace HX := Lib.hid (HX.out.more hb)
  replace HY := Lib.hid (HY.out.more hb)
  clear hb x2 y2 x3 y3
  have x4 := HX.out.box.cell 4 (by simp)
  have y4 := HY.out.cell 4 (by simp)
  go_wp2_with fail
  refine (H3.out _ HX.out.below).mono ?_
  rintro e w3 ⟨rfl, hb⟩
  replace HX := Lib.hid (HX.out.more hb)
  replace HY := Lib.hid (HY.out.more hb)
  clear hb x4 y4
  have x5 := HX.out.box.cell 5 (by simp)
  have y5 := HY.out.cell 5 (by simp)
  go_wp2_with fail
  refine (H4.out _ HX.out.below).mono ?_
  rintro e w4 ⟨rfl, hb⟩
  replace HX := Lib.hid (HX.out.more hb)
  replace HY := Lib.hid (HY.out.more hb)
  clear hb x5 y5
  have x6 := HX.out.box.cell 6 (by simp)
  have y6 := HY.out.cell 6 (by simp)
  have x7 := HX.out.box.cell 7 (by simp)
  have y7 := HY.out.cell 7 (by simp)
  have x8 := HX.out.box.cell 8 (by simp)
  have y8 := HY.out.cell 8 (by simp)
  go_wp2_with fail
  refine (H5.out _ HX.out.below).mono ?_
  rintro e w5 ⟨rfl, hb⟩
  replace HX := Lib.hid (HX.out.more hb)
  replace HY := Lib.hid (HY.out.more hb)
  clear hb x6 y6 x7 y7 x8 y8
  have x9 := HX.out.box.cell 9 (by simp)
  have y9 := HY.out.cell 9 (by simp)
  have x10 := HX.out.box.cell 10 (by simp)
  have y10 := HY.out.cell 10 (by simp)
  have x11 := HX.out.box.cell 11 (by simp)
  have y11 := HY.out.cell 11 (by simp)
  go_wp2_with fail
  refine (H6.out _ HX.out.below).mono ?_
  rintro e w6 ⟨rfl, hb⟩
  replace HX := Lib.hid (HX.out.more hb)
  replace HY := Lib.hid (HY.out.more hb)
  clear hb x9 y9 x10 y10 x11 y11
  go_wp2
  go_ret
  exact ⟨rfl, HX.out.below⟩
end Go.Proofs.Ytckofkdeedbbgaa
/- What this text proves: the contract of the laws' own mark of a number as a text. -/
namespace Go.Proofs.Ytckofkdeedbbgaa
open Go.ChangeShapes Go.WideShapes Go.ChangeAt Go.RowKit
set_option linter.unusedVariables false

/-- The digits of a number, by at most f of them. -/
def dgF : Nat → Nat → List UInt8
  | 0, _ => []
  | f + 1, k => if k = 0 then [] else dgF f (k / 10) ++ [UInt8.ofNat (48 + k % 10)]
theorem dgF_zero (f : Nat) : dgF f 0 = [] := by cases f <;> rfl
def markV (k : Nat) : ByteArray := ⟨#[109]⟩ ++ ⟨(dgF 64 k).toArray⟩
theorem one_text (w : World) (d : UInt8) : (convert 22 9 (.slice (some ⟨w.heap.size, 0, none⟩) 1 1)).run Try.prog (w.alloc (.cells #[.int .u8 (d.toNat : Int)] 5)) = .ok (.string ⟨#[d]⟩) (w.alloc (.cells #[.int .u8 (d.toNat : Int)] 5)) := by
  have h := run_convert_bytes_back (P := Try.prog) (w.alloc (.cells #[.int .u8 (d.toNat : Int)] 5)) 22 9 5 ⟨w.heap.size, 0, none⟩ 1 [d] Try.underlying22 Try.underlying5 Try.underlying9 (fun j hj => by
    obtain rfl : j = 0 := by simp at hj; omega
    show (w.alloc (.cells #[.int .u8 (d.toNat : Int)] 5)).cell? ⟨w.heap.size, 0, none⟩ = _
    rw [World.cell?_alloc_at _ _ _ _ rfl]
    rfl)
  simpa using h

set_option maxHeartbeats 1000000 in
theorem mark_text (n : Nat) (h0 : 0 < n) (hn : n < 1000000000) (w : World) :
    Calls Try.prog 150 #[.int .i64 n] w fun e w' => e = .returned (.string (markV n)) ∧ Below w.heap.size w w' := by
  have hd : decide ((n : Int) ≤ 0) = false := by simp; omega
  go_enter Try.func150, Try.ntmps150
  go_wp2
  go_loopw [0, 3] (fun i s wr => ∃ (f k : Nat) (t : ByteArray), i = .int .i64 (k : Int) ∧ s = .string t ∧ k < 2 ^ f ∧ k < 1000000000 ∧ t.size + f ≤ 64 ∧ dgF 64 n = dgF f k ++ t.data.toList ∧ Below w.heap.size w wr) (fun i _ _ => (intOf i).toNat)
  case atStart => exact ⟨64, n, ⟨#[]⟩, rfl, rfl, by omega, hn, by simp; rfl, by simp, Below.refl _ _⟩
  case round =>
    obtain ⟨f, k, t, rfl, rfl, hf, hk, ht, he, hbel⟩ := hrel
    have He := Lib.hid he
    clear he
    by_cases hpos : 0 < k
    · have hp : decide (0 < k) = true := by simp; omega
      obtain ⟨f', hff⟩ : ∃ j, f = j + 1 := ⟨f - 1, by
        rcases Nat.eq_zero_or_pos f with h1 | h1
        · rw [h1] at hf; simp at hf; omega
        · omega⟩
      rw [hff] at hf ht He
      have hf2 := Lib.hid (show k / 10 < 2 ^ f' by rw [Nat.pow_succ] at hf; omega)
      clear hf hff
      have hdig := Lib.hid (show dgF (f' + 1) k = dgF f' (k / 10) ++ [UInt8.ofNat (48 + k % 10)] by simp only [dgF]; rw [if_neg (by omega)])
      have hval : ((UInt8.ofNat (48 + k % 10)).toNat : Int) = 48 + (k : Int) % 10 := by rw [UInt8.toNat_ofNat']; omega
      have hcv := one_text wr (UInt8.ofNat (48 + k % 10))
      rw [hval] at hcv
      clear hval
      generalize UInt8.ofNat (48 + k % 10) = d at *
      have hds : (⟨#[d]⟩ : ByteArray).size = 1 := rfl
      go_wp2
      refine ⟨⟨f', k / 10, ⟨#[d]⟩ ++ t, by go_num, rfl, hf2.out, by omega, by rw [ByteArray.size_append, hds]; omega, ?_, hbel.alloc hbel.size _⟩, by simp [intOf]; omega⟩
      rw [He.out, hdig.out]
      simp [ByteArray.data_append]
    · obtain rfl : k = 0 := by omega
      have hfin := Lib.hid (show t = ⟨(dgF 64 n).toArray⟩ by
        have h := He.out
        rw [dgF_zero, List.nil_append] at h
        rw [h])
      have h1 : (⟨#[109]⟩ : ByteArray).size = 1 := rfl
      clear hpos
      go_wp2
      go_ret
      exact ⟨by rw [hfin.out]; rfl, hbel⟩
end Go.Proofs.Ytckofkdeedbbgaa
