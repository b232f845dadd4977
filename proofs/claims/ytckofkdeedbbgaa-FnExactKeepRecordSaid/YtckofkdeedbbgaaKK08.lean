/- What this text proves: the parts RcT, RoM, Byte of the proof, each under its own words. -/
import Derived.Test.YtckofkdeedbbgaaKK05
import Derived.Test.YtckofkdeedbbgaaKK00
import Derived.Laws.MakeOwn
import Derived.Deep.LoopGhost
import Derived.Test.YtckofkdeedbbgaaKK06
import Derived.Lib.Hide
/- What this text proves: the contracts of the laws' own functions over a list of records that was handed to them: its size, its copy. -/
namespace Go.Proofs.Ytckofkdeedbbgaa
open Go.ChangeShapes Go.WideShapes Go.ChangeAt Go.RowKit
set_option linter.unusedVariables false


abbrev rc0 : Rc := (0, 0, 0, ⟨#[]⟩)
/-- The bytes of the first k. -/
def totRc (fs : List Rc) : Nat → Nat
  | 0 => 0
  | k + 1 => totRc fs k + (fs.getD k rc0).2.2.2.size
theorem totRc_le (fs : List Rc) {j k : Nat} (h : j ≤ k) : totRc fs j ≤ totRc fs k := by
  induction k with
  | zero => obtain rfl : j = 0 := by omega
            exact Nat.le_refl _
  | succ k ih =>
    rcases Nat.lt_or_ge j (k + 1) with h1 | h1
    · exact Nat.le_trans (ih (by omega)) (Nat.le_add_right _ _)
    · obtain rfl : j = k + 1 := by omega
      exact Nat.le_refl _
theorem getRc_at {l : List Rc} {k : Nat} (h : k < l.length) : l.getD k rc0 = l[k] := by
  rw [List.getD_eq_getElem?_getD, List.getElem?_eq_getElem h]
  rfl
theorem totRc_at (l : List Rc) {k : Nat} (h : k < l.length) : l[k].2.2.2.size ≤ totRc l l.length := by
  have h1 : totRc l (k + 1) = totRc l k + l[k].2.2.2.size := by simp only [totRc]; rw [getRc_at h]
  have h2 := totRc_le l (show k + 1 ≤ l.length from h)
  omega

set_option maxHeartbeats 2000000 in
theorem sz_rcs (A : Option Addr) (l : List Rc) (c L : Nat) (hl : l.length ≤ maxLen) (hs : ∀ j (hj : j < l.length), l[j].2.2.2.size ≤ maxLen) (hL : L ≤ 1048576) (w : World) (h : LsI 4 w w.heap.size A (l.map rcC)) :
    Calls Try.prog 94 #[.slice A l.length c, .int .i64 (L : Int)] w fun e w' => e = .returned (.int .i64 (if l.length + totRc l l.length ≤ L then (L : Int) - ((l.length : Int) + (totRc l l.length : Int)) else -1)) ∧ Below w.heap.size w w' := by
  have hl' : l.length ≤ 9223372036854775807 := by unfold maxLen at hl; omega
  by_cases h0 : l.length ≤ L
  · have hd0 : decide ((L : Int) - (l.length : Int) < 0) = false := by simp; omega
    have HS := Lib.hid (fun x0 x1 x2 x3 L hL hd W => sz_rcd x0 x1 x2 x3 L hL hd W)
    have HI := Lib.hid (fun W (hb : Below w.heap.size w W) => h.more hb)
    have HZ := Lib.hid hs
    clear h hs
    go_enter Try.func94, Try.ntmps94
    go_wp2
    go_loopg [1, 5] l.length (fun gh v1 v5 wx => ∃ k : Nat, k ≤ l.length ∧ gh = l.length - k ∧ v5 = .int .i64 (k : Int) ∧ l.length + totRc l k ≤ L ∧ v1 = .int .i64 (((L - l.length - totRc l k : Nat) : Int)) ∧ Below w.heap.size w wx)
    case atStart => exact ⟨0, by omega, rfl, rfl, by simpa [totRc] using h0, by simp only [totRc]; congr 1; omega, Below.refl _ _⟩
    case round =>
      obtain ⟨k, hk, rfl, rfl, hLk, rfl, hbel⟩ := hrel
      have HB := Lib.hid hbel
      by_cases hlt : k < l.length
      · have hd : decide (k < l.length) = true := by simp; omega
        have hd' : decide ((k : Int) < (l.length : Int)) = true := by simp; omega
        obtain ⟨b, off, rfl, hb, hc⟩ := rcCellsI (b := 0) (off := 0) (HI.out _ hbel) (by omega)
        obtain ⟨c0, c1, c2, c3⟩ := hc k hlt
        have hz := HZ.out k hlt
        have htot : totRc l (k + 1) = totRc l k + l[k].2.2.2.size := by simp only [totRc]; rw [getRc_at hlt]
        have hle := totRc_le l (show k + 1 ≤ l.length from hlt)
        have HCL := Lib.hid (HS.out l[k].1 l[k].2.1 l[k].2.2.1 l[k].2.2.2 (L - l.length - totRc l k) (by omega) hz)
        have HTT := Lib.hid htot
        have HLE := Lib.hid hle
        clear hc hz htot hle hbel
        generalize l[k].1 = x0 at *
        generalize l[k].2.1 = x1 at *
        generalize l[k].2.2.1 = x2 at *
        generalize l[k].2.2.2 = x3 at *
        go_wp2_with fail
        refine (HCL.out _).mono ?_
        rintro e w2 ⟨rfl, hb2⟩
        have HB2 := Lib.hid (HB.out.trans (hb2.mono HB.out.size))
        clear hb2 c0 c1 c2 c3
        by_cases hfit : x3.size ≤ L - l.length - totRc l k
        · rw [if_pos hfit]
          have hd1 : decide (((L - l.length - totRc l k : Nat) : Int) - (x3.size : Int) < 0) = false := by simp; omega
          have HV := Lib.hid (show ((L - l.length - totRc l k : Nat) : Int) - (x3.size : Int) = ((L - l.length - totRc l (k + 1) : Nat) : Int) from by rw [HTT.out]; omega)
          have HN := Lib.hid (show l.length + totRc l (k + 1) ≤ L from by rw [HTT.out]; omega)
          obtain ⟨V, hV⟩ : ∃ V, ((L - l.length - totRc l k : Nat) : Int) - (x3.size : Int) = V := ⟨_, rfl⟩
          rw [hV] at hd1 HV
          rw [hV]
          clear hV
          go_wp2
          go_roundg (l.length - (k + 1))
          case measure => omega
          case rel => exact ⟨k + 1, by omega, rfl, by go_num, HN.out, by rw [HV.out], HB2.out⟩
        · rw [if_neg hfit]
          have HF := Lib.hid (show ¬ (l.length + totRc l l.length ≤ L) from by have h1 := HTT.out; have h2 := HLE.out; omega)
          go_wp2
          go_ret
          exact ⟨by first | rfl | (rw [if_neg HF.out]; rfl), HB2.out⟩
      · have hd : decide (k < l.length) = false := by simp; omega
        have hd' : decide ((k : Int) < (l.length : Int)) = false := by simp; omega
        obtain rfl : k = l.length := by omega
        have HV := Lib.hid (show ((L - l.length - totRc l l.length : Nat) : Int) = (L : Int) - ((l.length : Int) + (totRc l l.length : Int)) from by omega)
        go_wp2
        go_ret
        exact ⟨by first | (rw [← HV.out]; rfl) | (rw [if_pos hLk, ← HV.out]; rfl), HB.out⟩
  · rw [if_neg (by omega)]
    have hd0 : decide ((L : Int) - (l.length : Int) < 0) = true := by simp; omega
    clear h hs
    go_enter Try.func94, Try.ntmps94
    go_wp2
    go_ret
    exact ⟨rfl, Below.refl _ _⟩

theorem take_rc (xs : List Value) (j : Nat) (a0 a1 a2 a3 : Value) (h : j + 4 ≤ xs.length) : (((((xs.set (j) a0).set (j + 1) a1).set (j + 2) a2).set (j + 3) a3)).take (j + 4) = xs.take j ++ [a0, a1, a2, a3] := by
  apply List.ext_getElem?
  intro i
  rw [List.getElem?_append, List.length_take, Nat.min_eq_left (by omega)]
  by_cases h1 : i < j
  · rw [if_pos h1, List.getElem?_take_of_lt (by omega), List.getElem?_set_ne (by omega), List.getElem?_set_ne (by omega), List.getElem?_set_ne (by omega), List.getElem?_set_ne (by omega), List.getElem?_take_of_lt h1]
  · rw [if_neg h1]
    by_cases h2 : i < j + 4
    · rw [List.getElem?_take_of_lt h2]
      rcases (show i = j ∨ i = j + 1 ∨ i = j + 2 ∨ i = j + 3 by omega) with rfl | rfl | rfl | rfl
      · rw [List.getElem?_set_ne (by omega), List.getElem?_set_ne (by omega), List.getElem?_set_ne (by omega), List.getElem?_set_self (by first | omega | (simp only [List.length_set]; omega))]; simp
      · rw [List.getElem?_set_ne (by omega), List.getElem?_set_ne (by omega), List.getElem?_set_self (by first | omega | (simp only [List.length_set]; omega))]; simp
      · rw [List.getElem?_set_ne (by omega), List.getElem?_set_self (by first | omega | (simp only [List.length_set]; omega))]; simp
      · rw [List.getElem?_set_self (by first | omega | (simp only [List.length_set]; omega))]; simp
    · rw [List.getElem?_eq_none (by simp; omega), List.getElem?_eq_none (by simp; omega)]
/-- A slice of n in the making: its cells. -/
def RowRc (w : World) (base g n : Nat) (xs : List Value) : Prop := w.ownsRow base 50 4 (.slice (some ⟨g, 0, none⟩) n n) n xs ∧ xs.length = n * 4
theorem RowRc.more {w w' : World} {base g n : Nat} {xs : List Value} (h : RowRc w base g n xs) (hb : Below w.heap.size w w') : RowRc w' base g n xs :=
  ⟨World.ownsRow.kept (row := none) h.1 ⟨hb.os, hb.tape, hb.output, hb.size, fun k hk _ => hb.block k hk⟩ (.inr (by simp [Value.ownBlock])), h.2⟩
theorem RowRc.store {w : World} {base g n : Nat} {xs : List Value} (h : RowRc w base g n xs) (j : Nat) (u : Value) : RowRc (w.setCell ⟨g, j, none⟩ u) base g n (xs.set j u) := ⟨(World.ownsRow.stored h.1 j u).1, by rw [List.length_set]; exact h.2⟩
theorem RowRc.cell {w : World} {base g n : Nat} {xs : List Value} (h : RowRc w base g n xs) (j : Nat) (hj : j < n * 4) : ∃ u, w.cell? ⟨g, j, none⟩ = some u :=
  ⟨xs[j]'(by rw [h.2]; exact hj), by rw [World.ownsRow.cellAt h.1 j hj]; exact List.getElem?_eq_getElem _⟩
theorem make_rcs (W : World) (n : Nat) (hn : n ≤ 1048576) : ∃ cs, (Instr.makeSlice 28 (.int .i64 (n : Int)) (.int .i64 (n : Int))).run Try.prog W = .ok (.slice (some ⟨W.heap.size, 0, none⟩) n n) (W.alloc (.cells cs 50)) ∧ RowRc (W.alloc (.cells cs 50)) W.heap.size W.heap.size n cs.toList := by
  obtain ⟨i, hi, hz0, hz1, hz2⟩ := info_parts info_rc
  have h := run_make (P := Try.prog) W 28 50 i (.agg #[.int .i64 0, .int .i64 0, .int .i64 0, .string ⟨#[]⟩]) Try.underlying28 hi hz0 .i64 .i64 n n (by omega) (by omega) (by rw [hz2]; omega) (by omega)
  rw [hz1] at h
  refine ⟨_, by simpa using h, World.ownsRow_lit (base := W.heap.size) (e := 50) (size := 4) W _ n (Nat.le_refl _) (by unfold maxLen; omega) (by rw [size_madeCells]), by rw [Array.length_toList, size_madeCells]⟩

set_option maxHeartbeats 2000000 in
theorem to_rcs (A : Option Addr) (l : List Rc) (c : Nat) (hl : l.length ≤ 1048576) (w : World) (h : LsI 4 w w.heap.size A (l.map rcC)) :
    Calls Try.prog 101 #[.slice A l.length c] w fun e w' => ∃ v, e = .returned v ∧ OwnRc w' w.heap.size v l ∧ Below w.heap.size w w' := by
  obtain ⟨cs, hmk, hrow0⟩ := make_rcs w l.length hl
  have HR0 := Lib.hid hrow0
  have HB0 := Lib.hid ((Below.refl _ w).alloc (Nat.le_refl _) (.cells cs 50))
  have HI := Lib.hid (fun W (hb : Below w.heap.size w W) => h.more hb)
  have HT := Lib.hid (fun x0 x1 x2 x3 W => to_rcd x0 x1 x2 x3 W)
  clear h hrow0
  go_enter Try.func101, Try.ntmps101
  go_wp2
  clear hmk
  go_loopg [4] l.length (fun gh v4 wx => ∃ (k : Nat) (xs : List Value), k ≤ l.length ∧ gh = l.length - k ∧ v4 = .int .i64 (k : Int) ∧ xs.take (k * 4) = ((l.take k).map rcC).flatten ∧ RowRc wx w.heap.size w.heap.size l.length xs ∧ Below w.heap.size w wx)
  case atStart => exact ⟨0, cs.toList, by omega, rfl, rfl, by simp, HR0.out, HB0.out⟩
  case round =>
    obtain ⟨k, xs, hk, rfl, rfl, htk, hrow, hbel⟩ := hrel
    have HTK := Lib.hid htk
    have HB := Lib.hid hbel
    have HR := Lib.hid hrow
    clear htk hrow
    by_cases hlt : k < l.length
    · have hd : decide (k < l.length) = true := by simp; omega
      have hd' : decide ((k : Int) < (l.length : Int)) = true := by simp; omega
      obtain ⟨b, off, rfl, hb, hc⟩ := rcCellsI (b := 0) (off := 0) (HI.out _ hbel) (by omega)
      obtain ⟨c0, c1, c2, c3⟩ := hc k hlt
      have HLK := Lib.hid (show (((((xs.set (k * 4) (.int .i64 l[k].1)).set (k * 4 + 1) (.int .i64 l[k].2.1)).set (k * 4 + 2) (.int .i64 l[k].2.2.1)).set (k * 4 + 3) (.string l[k].2.2.2))).take ((k + 1) * 4) = ((l.take (k + 1)).map rcC).flatten from by
        rw [show (k + 1) * 4 = k * 4 + 4 by omega, take_rc _ _ _ _ _ _ (by have := HR.out.2; omega), HTK.out, List.take_succ_eq_append_getElem hlt, List.map_append, List.flatten_append]
        simp)
      clear hc hbel
      generalize l[k].1 = x0 at *
      generalize l[k].2.1 = x1 at *
      generalize l[k].2.2.1 = x2 at *
      generalize l[k].2.2.2 = x3 at *
      go_wp2_with fail
      refine (HT.out _ _ _ _ _).mono ?_
      rintro e w2 ⟨rfl, hb2⟩
      have R2 := HR.out.more hb2
      have HB2 := Lib.hid (HB.out.trans (hb2.mono HB.out.size))
      clear hb2 c0 c1 c2 c3
      obtain ⟨u0, d0⟩ := R2.cell (k * 4) (by omega)
      obtain ⟨u1, d1⟩ := (R2.store (k * 4) (.int .i64 x0)).cell (k * 4 + 1) (by omega)
      obtain ⟨u2, d2⟩ := ((R2.store (k * 4) (.int .i64 x0)).store (k * 4 + 1) (.int .i64 x1)).cell (k * 4 + 2) (by omega)
      obtain ⟨u3, d3⟩ := (((R2.store (k * 4) (.int .i64 x0)).store (k * 4 + 1) (.int .i64 x1)).store (k * 4 + 2) (.int .i64 x2)).cell (k * 4 + 3) (by omega)
      have hf := World.ownsRow.frozenAt R2.1
      have HST := Lib.hid ((((R2.store (k * 4) (.int .i64 x0)).store (k * 4 + 1) (.int .i64 x1)).store (k * 4 + 2) (.int .i64 x2)).store (k * 4 + 3) (.string x3))
      clear R2
      go_wp2
      go_roundg (l.length - (k + 1))
      case measure => omega
      case rel => exact ⟨k + 1, _, by omega, rfl, by go_num, HLK.out, HST.out, ((((HB2.out.setCell (p := ⟨w.heap.size, k * 4, none⟩) (Nat.le_refl _) _).setCell (p := ⟨w.heap.size, k * 4 + 1, none⟩) (Nat.le_refl _) _).setCell (p := ⟨w.heap.size, k * 4 + 2, none⟩) (Nat.le_refl _) _).setCell (p := ⟨w.heap.size, k * 4 + 3, none⟩) (Nat.le_refl _) _)⟩
    · have hd : decide (k < l.length) = false := by simp; omega
      have hd' : decide ((k : Int) < (l.length : Int)) = false := by simp; omega
      obtain rfl : k = l.length := by omega
      have HO := Lib.hid (show OwnRc wr w.heap.size (.slice (some ⟨w.heap.size, 0, none⟩) l.length l.length) l from by
        have h := HTK.out
        rw [List.take_of_length_le (Nat.le_of_eq HR.out.2), List.take_of_length_le (Nat.le_refl _)] at h
        have h1 := HR.out.1
        rw [h] at h1
        exact OwnR.toO (E := 50) ⟨by rw [List.length_map]; exact h1, rc_len l⟩)
      go_wp2
      go_ret
      exact ⟨_, rfl, HO.out, HB.out⟩
end Go.Proofs.Ytckofkdeedbbgaa
/- What this text proves: what makes a recorder valid, as a fact of its records and numbers; how far a loop over them has got. -/
namespace Go.Proofs.Ytckofkdeedbbgaa
open Go.ChangeShapes Go.WideShapes Go.ChangeAt Go.RowKit
set_option linter.unusedVariables false

abbrev roV (r : Int) (v u : Value) : Value := .agg #[.int .i64 r, v, u]
abbrev roL (r : Int) (v u : Value) : List Value := [.int .i64 r, v, u]
abbrev Cells3Q (W : World) (g : Nat) (x y z : Value) : Prop := W.cell? ⟨g, 0, none⟩ = some x ∧ W.cell? ⟨g, 1, none⟩ = some y ∧ W.cell? ⟨g, 2, none⟩ = some z
theorem Box.threeQ {W : World} {g : Nat} {x y z : Value} (h : Box W g [x, y, z]) : Cells3Q W g x y z := ⟨h.cell 0 (by simp), h.cell 1 (by simp), h.cell 2 (by simp)⟩
def RdC (p : Rc) : Prop := RdOk p.1 p.2.1 p.2.2.1 p.2.2.2
instance (p : Rc) : Decidable (RdC p) := by unfold RdC; infer_instance
/-- The Id of the record before the k-th; -1 before the first. -/
def befR (l : List Rc) : Nat → Int
  | 0 => -1
  | k + 1 => (l.getD k rc0).1
/-- The first k records are valid, with ascending Ids. -/
def UpTo (l : List Rc) (k : Nat) : Prop := ∀ j, j < k → RdC (l.getD j rc0) ∧ befR l j < (l.getD j rc0).1
theorem UpTo.zero (l : List Rc) : UpTo l 0 := fun j h => absurd h (Nat.not_lt_zero _)
theorem UpTo.succ {l : List Rc} {k : Nat} (h : UpTo l k) (h1 : RdC (l.getD k rc0)) (h2 : befR l k < (l.getD k rc0).1) : UpTo l (k + 1) := fun j hj => by
  rcases Nat.lt_or_ge j k with h3 | h3
  · exact h j h3
  · obtain rfl : j = k := by omega
    exact ⟨h1, h2⟩
/-- The bytes of the first k records. -/
def useR (l : List Rc) (k : Nat) : Nat := 6 * k + totRc l k
theorem useR_zero (l : List Rc) : useR l 0 = 0 := by simp [useR, totRc]
theorem useR_succ (l : List Rc) (k : Nat) : useR l (k + 1) = useR l k + (6 + (l.getD k rc0).2.2.2.size) := by simp only [useR, totRc]; omega
theorem useR_le (l : List Rc) {j k : Nat} (h : j ≤ k) : useR l j ≤ useR l k := by
  have := totRc_le l h
  unfold useR
  omega
/-- All numbers lie between two. -/
def Within (d : List Int) (a b : Int) : Prop := ∀ x ∈ d, a ≤ x ∧ x ≤ b
def RcrOk (r : Int) (l : List Rc) (d : List Int) : Prop := (0 ≤ r ∧ r ≤ 4000) ∧ UpTo l l.length ∧ (useR l l.length : Int) ≤ r ∧ d.length ≤ 65536 ∧ Within d 0 65535
noncomputable def rcrB (r : Int) (l : List Rc) (d : List Int) : Bool := @decide (RcrOk r l d) (Classical.propDecidable _)
theorem rcrB_yes {r : Int} {l : List Rc} {d : List Int} (h : RcrOk r l d) : rcrB r l d = true := by unfold rcrB; exact @decide_eq_true _ (Classical.propDecidable _) h
theorem rcrB_no {r : Int} {l : List Rc} {d : List Int} (h : ¬ RcrOk r l d) : rcrB r l d = false := by unfold rcrB; exact @decide_eq_false _ (Classical.propDecidable _) h
theorem rcrB_iff {r : Int} {l : List Rc} {d : List Int} : rcrB r l d = true ↔ RcrOk r l d := by
  by_cases h : RcrOk r l d
  · simp [rcrB_yes h, h]
  · simp [rcrB_no h, h]
noncomputable def upB (l : List Rc) : Bool := @decide (UpTo l l.length) (Classical.propDecidable _)
theorem upB_yes {l : List Rc} (h : UpTo l l.length) : upB l = true := by unfold upB; exact @decide_eq_true _ (Classical.propDecidable _) h
theorem upB_no {l : List Rc} (h : ¬ UpTo l l.length) : upB l = false := by unfold upB; exact @decide_eq_false _ (Classical.propDecidable _) h
noncomputable def winB (d : List Int) (a b : Int) : Bool := @decide (Within d a b) (Classical.propDecidable _)
theorem winB_yes {d : List Int} {a b : Int} (h : Within d a b) : winB d a b = true := by unfold winB; exact @decide_eq_true _ (Classical.propDecidable _) h
theorem winB_no {d : List Int} {a b : Int} (h : ¬ Within d a b) : winB d a b = false := by unfold winB; exact @decide_eq_false _ (Classical.propDecidable _) h
theorem within_all {d : List Int} {a b : Int} (h : ∀ k (hk : k < d.length), a ≤ d[k] ∧ d[k] ≤ b) : Within d a b := fun x hx => by
  obtain ⟨k, hk, rfl⟩ := List.mem_iff_getElem.1 hx
  exact h k hk
theorem within_at {d : List Int} {a b : Int} (h : Within d a b) (k : Nat) (hk : k < d.length) : a ≤ d[k] ∧ d[k] ≤ b := h _ (List.getElem_mem hk)
theorem upTo_at {l : List Rc} {n k : Nat} (h : UpTo l n) (hk : k < n) (hl : k < l.length) : RdC l[k] ∧ befR l k < l[k].1 := by
  have := h k hk
  rwa [getRc_at hl] at this
/-- What RoomLeft answers. -/
noncomputable def leftR (r : Int) (l : List Rc) (d : List Int) : Int := open Classical in if RcrOk r l d then r - ((useR l l.length : Nat) : Int) else 0
theorem leftR_yes {r : Int} {l : List Rc} {d : List Int} (h : RcrOk r l d) : leftR r l d = r - ((useR l l.length : Nat) : Int) := by unfold leftR; rw [if_pos h]
theorem leftR_no {r : Int} {l : List Rc} {d : List Int} (h : ¬ RcrOk r l d) : leftR r l d = 0 := by unfold leftR; rw [if_neg h]
end Go.Proofs.Ytckofkdeedbbgaa
/- What this text proves: a byte of a text, read by its index. -/
namespace Go.Proofs.Ytckofkdeedbbgaa
open Go

/-- The byte at an index; 0 where there is none. -/
def byteAt (s : ByteArray) (i : Nat) : Nat := (s.data.toList.getD i 0).toNat
theorem byteAt_of (s : ByteArray) (i : Nat) (h : i < s.size) : (s[i]).toNat = byteAt s i := by
  have h' : i < s.data.toList.length := by simpa using h
  unfold byteAt
  rw [List.getD_eq_getElem?_getD, List.getElem?_eq_getElem h']
  rfl
theorem byteAt_lt (s : ByteArray) (i : Nat) : byteAt s i < 256 := by unfold byteAt; exact UInt8.toNat_lt _
end Go.Proofs.Ytckofkdeedbbgaa
