/- What this text proves: the parts RcT, BufI of the proof, each under its own words. -/
import Derived.Test.YtckofkdeedbbgaaRR05
import Derived.Test.YtckofkdeedbbgaaRR00
import Derived.Laws.MakeOwn
import Derived.Deep.LoopGhost
import Derived.WalkKit
import Derived.LoopTactic
import Derived.IntWalk
import Derived.OwnWalk
import Derived.Laws.AppendOwn
import Derived.Laws.OwnMore
import Derived.Lib.Hide
/- What this text proves: the contracts of the laws' own functions over a list of records that was handed to them: its size, its copy. -/
namespace Go.Proofs.Ytckofkdeedbbgaa
open Go.ChangeShapes Go.WideShapes Go.ChangeAt Go.RowKit
set_option linter.unusedVariables false


abbrev rc0 : Rc := (0, 0, 0, ⟨#[]⟩)
/-- The bytes of the first k. -/
def totRc (fs : List Rc) : Nat → Nat
  | 0 => 0
  | k + 1 => totRc fs k + (fs.getD k rc0).2.2.2.size
theorem totRc_le (fs : List Rc) {j k : Nat} (h : j ≤ k) : totRc fs j ≤ totRc fs k := by
  induction k with
  | zero => obtain rfl : j = 0 := by omega
            exact Nat.le_refl _
  | succ k ih =>
    rcases Nat.lt_or_ge j (k + 1) with h1 | h1
    · exact Nat.le_trans (ih (by omega)) (Nat.le_add_right _ _)
    · obtain rfl : j = k + 1 := by omega
      exact Nat.le_refl _
theorem getRc_at {l : List Rc} {k : Nat} (h : k < l.length) : l.getD k rc0 = l[k] := by
  rw [List.getD_eq_getElem?_getD, List.getElem?_eq_getElem h]
  rfl
theorem totRc_at (l : List Rc) {k : Nat} (h : k < l.length) : l[k].2.2.2.size ≤ totRc l l.length := by
  have h1 : totRc l (k + 1) = totRc l k + l[k].2.2.2.size := by simp only [totRc]; rw [getRc_at h]
  have h2 := totRc_le l (show k + 1 ≤ l.length from h)
  omega

set_option maxHeartbeats 2000000 in
theorem sz_rcs (A : Option Addr) (l : List Rc) (c L : Nat) (hl : l.length ≤ maxLen) (hs : ∀ j (hj : j < l.length), l[j].2.2.2.size ≤ maxLen) (hL : L ≤ 1048576) (w : World) (h : LsI 4 w w.heap.size A (l.map rcC)) :
    Calls Try.prog 94 #[.slice A l.length c, .int .i64 (L : Int)] w fun e w' => e = .returned (.int .i64 (if l.length + totRc l l.length ≤ L then (L : Int) - ((l.length : Int) + (totRc l l.length : Int)) else -1)) ∧ Below w.heap.size w w' := by
  have hl' : l.length ≤ 9223372036854775807 := by unfold maxLen at hl; omega
  by_cases h0 : l.length ≤ L
  · have hd0 : decide ((L : Int) - (l.length : Int) < 0) = false := by simp; omega
    have HS := Lib.hid (fun x0 x1 x2 x3 L hL hd W => sz_rcd x0 x1 x2 x3 L hL hd W)
    have HI := Lib.hid (fun W (hb : Below w.heap.size w W) => h.more hb)
    have HZ := Lib.hid hs
    clear h hs
    go_enter Try.func94, Try.ntmps94
    go_wp2
    go_loopg [1, 5] l.length (fun gh v1 v5 wx => ∃ k : Nat, k ≤ l.length ∧ gh = l.length - k ∧ v5 = .int .i64 (k : Int) ∧ l.length + totRc l k ≤ L ∧ v1 = .int .i64 (((L - l.length - totRc l k : Nat) : Int)) ∧ Below w.heap.size w wx)
    case atStart => exact ⟨0, by omega, rfl, rfl, by simpa [totRc] using h0, by simp only [totRc]; congr 1; omega, Below.refl _ _⟩
    case round =>
      obtain ⟨k, hk, rfl, rfl, hLk, rfl, hbel⟩ := hrel
      have HB := Lib.hid hbel
      by_cases hlt : k < l.length
      · have hd : decide (k < l.length) = true := by simp; omega
        have hd' : decide ((k : Int) < (l.length : Int)) = true := by simp; omega
        obtain ⟨b, off, rfl, hb, hc⟩ := rcCellsI (b := 0) (off := 0) (HI.out _ hbel) (by omega)
        obtain ⟨c0, c1, c2, c3⟩ := hc k hlt
        have hz := HZ.out k hlt
        have htot : totRc l (k + 1) = totRc l k + l[k].2.2.2.size := by simp only [totRc]; rw [getRc_at hlt]
        have hle := totRc_le l (show k + 1 ≤ l.length from hlt)
        have HCL := Lib.hid (HS.out l[k].1 l[k].2.1 l[k].2.2.1 l[k].2.2.2 (L - l.length - totRc l k) (by omega) hz)
        have HTT := Lib.hid htot
        have HLE := Lib.hid hle
        clear hc hz htot hle hbel
        generalize l[k].1 = x0 at *
        generalize l[k].2.1 = x1 at *
        generalize l[k].2.2.1 = x2 at *
        generalize l[k].2.2.2 = x3 at *
        go_wp2_with fail
        refine (HCL.out _).mono ?_
        rintro e w2 ⟨rfl, hb2⟩
        have HB2 := Lib.hid (HB.out.trans (hb2.mono HB.out.size))
        clear hb2 c0 c1 c2 c3
        by_cases hfit : x3.size ≤ L - l.length - totRc l k
        · rw [if_pos hfit]
          have hd1 : decide (((L - l.length - totRc l k : Nat) : Int) - (x3.size : Int) < 0) = false := by simp; omega
          have HV := Lib.hid (show ((L - l.length - totRc l k : Nat) : Int) - (x3.size : Int) = ((L - l.length - totRc l (k + 1) : Nat) : Int) from by rw [HTT.out]; omega)
          have HN := Lib.hid (show l.length + totRc l (k + 1) ≤ L from by rw [HTT.out]; omega)
          obtain ⟨V, hV⟩ : ∃ V, ((L - l.length - totRc l k : Nat) : Int) - (x3.size : Int) = V := ⟨_, rfl⟩
          rw [hV] at hd1 HV
          rw [hV]
          clear hV
          go_wp2
          go_roundg (l.length - (k + 1))
          case measure => omega
          case rel => exact ⟨k + 1, by omega, rfl, by go_num, HN.out, by rw [HV.out], HB2.out⟩
        · rw [if_neg hfit]
          have HF := Lib.hid (show ¬ (l.length + totRc l l.length ≤ L) from by have h1 := HTT.out; have h2 := HLE.out; omega)
          go_wp2
          go_ret
          exact ⟨by first | rfl | (rw [if_neg HF.out]; rfl), HB2.out⟩
      · have hd : decide (k < l.length) = false := by simp; omega
        have hd' : decide ((k : Int) < (l.length : Int)) = false := by simp; omega
        obtain rfl : k = l.length := by omega
        have HV := Lib.hid (show ((L - l.length - totRc l l.length : Nat) : Int) = (L : Int) - ((l.length : Int) + (totRc l l.length : Int)) from by omega)
        go_wp2
        go_ret
        exact ⟨by first | (rw [← HV.out]; rfl) | (rw [if_pos hLk, ← HV.out]; rfl), HB.out⟩
  · rw [if_neg (by omega)]
    have hd0 : decide ((L : Int) - (l.length : Int) < 0) = true := by simp; omega
    clear h hs
    go_enter Try.func94, Try.ntmps94
    go_wp2
    go_ret
    exact ⟨rfl, Below.refl _ _⟩

theorem take_rc (xs : List Value) (j : Nat) (a0 a1 a2 a3 : Value) (h : j + 4 ≤ xs.length) : (((((xs.set (j) a0).set (j + 1) a1).set (j + 2) a2).set (j + 3) a3)).take (j + 4) = xs.take j ++ [a0, a1, a2, a3] := by
  apply List.ext_getElem?
  intro i
  rw [List.getElem?_append, List.length_take, Nat.min_eq_left (by omega)]
  by_cases h1 : i < j
  · rw [if_pos h1, List.getElem?_take_of_lt (by omega), List.getElem?_set_ne (by omega), List.getElem?_set_ne (by omega), List.getElem?_set_ne (by omega), List.getElem?_set_ne (by omega), List.getElem?_take_of_lt h1]
  · rw [if_neg h1]
    by_cases h2 : i < j + 4
    · rw [List.getElem?_take_of_lt h2]
      rcases (show i = j ∨ i = j + 1 ∨ i = j + 2 ∨ i = j + 3 by omega) with rfl | rfl | rfl | rfl
      · rw [List.getElem?_set_ne (by omega), List.getElem?_set_ne (by omega), List.getElem?_set_ne (by omega), List.getElem?_set_self (by first | omega | (simp only [List.length_set]; omega))]; simp
      · rw [List.getElem?_set_ne (by omega), List.getElem?_set_ne (by omega), List.getElem?_set_self (by first | omega | (simp only [List.length_set]; omega))]; simp
      · rw [List.getElem?_set_ne (by omega), List.getElem?_set_self (by first | omega | (simp only [List.length_set]; omega))]; simp
      · rw [List.getElem?_set_self (by first | omega | (simp only [List.length_set]; omega))]; simp
    · rw [List.getElem?_eq_none (by simp; omega), List.getElem?_eq_none (by simp; omega)]
/-- A slice of n in the making: its cells. -/
def RowRc (w : World) (base g n : Nat) (xs : List Value) : Prop := w.ownsRow base 50 4 (.slice (some ⟨g, 0, none⟩) n n) n xs ∧ xs.length = n * 4
theorem RowRc.more {w w' : World} {base g n : Nat} {xs : List Value} (h : RowRc w base g n xs) (hb : Below w.heap.size w w') : RowRc w' base g n xs :=
  ⟨World.ownsRow.kept (row := none) h.1 ⟨hb.os, hb.tape, hb.output, hb.size, fun k hk _ => hb.block k hk⟩ (.inr (by simp [Value.ownBlock])), h.2⟩
theorem RowRc.store {w : World} {base g n : Nat} {xs : List Value} (h : RowRc w base g n xs) (j : Nat) (u : Value) : RowRc (w.setCell ⟨g, j, none⟩ u) base g n (xs.set j u) := ⟨(World.ownsRow.stored h.1 j u).1, by rw [List.length_set]; exact h.2⟩
theorem RowRc.cell {w : World} {base g n : Nat} {xs : List Value} (h : RowRc w base g n xs) (j : Nat) (hj : j < n * 4) : ∃ u, w.cell? ⟨g, j, none⟩ = some u :=
  ⟨xs[j]'(by rw [h.2]; exact hj), by rw [World.ownsRow.cellAt h.1 j hj]; exact List.getElem?_eq_getElem _⟩
theorem make_rcs (W : World) (n : Nat) (hn : n ≤ 1048576) : ∃ cs, (Instr.makeSlice 28 (.int .i64 (n : Int)) (.int .i64 (n : Int))).run Try.prog W = .ok (.slice (some ⟨W.heap.size, 0, none⟩) n n) (W.alloc (.cells cs 50)) ∧ RowRc (W.alloc (.cells cs 50)) W.heap.size W.heap.size n cs.toList := by
  obtain ⟨i, hi, hz0, hz1, hz2⟩ := info_parts info_rc
  have h := run_make (P := Try.prog) W 28 50 i (.agg #[.int .i64 0, .int .i64 0, .int .i64 0, .string ⟨#[]⟩]) Try.underlying28 hi hz0 .i64 .i64 n n (by omega) (by omega) (by rw [hz2]; omega) (by omega)
  rw [hz1] at h
  refine ⟨_, by simpa using h, World.ownsRow_lit (base := W.heap.size) (e := 50) (size := 4) W _ n (Nat.le_refl _) (by unfold maxLen; omega) (by rw [size_madeCells]), by rw [Array.length_toList, size_madeCells]⟩

set_option maxHeartbeats 2000000 in
theorem to_rcs (A : Option Addr) (l : List Rc) (c : Nat) (hl : l.length ≤ 1048576) (w : World) (h : LsI 4 w w.heap.size A (l.map rcC)) :
    Calls Try.prog 101 #[.slice A l.length c] w fun e w' => ∃ v, e = .returned v ∧ OwnRc w' w.heap.size v l ∧ Below w.heap.size w w' := by
  obtain ⟨cs, hmk, hrow0⟩ := make_rcs w l.length hl
  have HR0 := Lib.hid hrow0
  have HB0 := Lib.hid ((Below.refl _ w).alloc (Nat.le_refl _) (.cells cs 50))
  have HI := Lib.hid (fun W (hb : Below w.heap.size w W) => h.more hb)
  have HT := Lib.hid (fun x0 x1 x2 x3 W => to_rcd x0 x1 x2 x3 W)
  clear h hrow0
  go_enter Try.func101, Try.ntmps101
  go_wp2
  clear hmk
  go_loopg [4] l.length (fun gh v4 wx => ∃ (k : Nat) (xs : List Value), k ≤ l.length ∧ gh = l.length - k ∧ v4 = .int .i64 (k : Int) ∧ xs.take (k * 4) = ((l.take k).map rcC).flatten ∧ RowRc wx w.heap.size w.heap.size l.length xs ∧ Below w.heap.size w wx)
  case atStart => exact ⟨0, cs.toList, by omega, rfl, rfl, by simp, HR0.out, HB0.out⟩
  case round =>
    obtain ⟨k, xs, hk, rfl, rfl, htk, hrow, hbel⟩ := hrel
    have HTK := Lib.hid htk
    have HB := Lib.hid hbel
    have HR := Lib.hid hrow
    clear htk hrow
    by_cases hlt : k < l.length
    · have hd : decide (k < l.length) = true := by simp; omega
      have hd' : decide ((k : Int) < (l.length : Int)) = true := by simp; omega
      obtain ⟨b, off, rfl, hb, hc⟩ := rcCellsI (b := 0) (off := 0) (HI.out _ hbel) (by omega)
      obtain ⟨c0, c1, c2, c3⟩ := hc k hlt
      have HLK := Lib.hid (show (((((xs.set (k * 4) (.int .i64 l[k].1)).set (k * 4 + 1) (.int .i64 l[k].2.1)).set (k * 4 + 2) (.int .i64 l[k].2.2.1)).set (k * 4 + 3) (.string l[k].2.2.2))).take ((k + 1) * 4) = ((l.take (k + 1)).map rcC).flatten from by
        rw [show (k + 1) * 4 = k * 4 + 4 by omega, take_rc _ _ _ _ _ _ (by have := HR.out.2; omega), HTK.out, List.take_succ_eq_append_getElem hlt, List.map_append, List.flatten_append]
        simp)
      clear hc hbel
      generalize l[k].1 = x0 at *
      generalize l[k].2.1 = x1 at *
      generalize l[k].2.2.1 = x2 at *
      generalize l[k].2.2.2 = x3 at *
      go_wp2_with fail
      refine (HT.out _ _ _ _ _).mono ?_
      rintro e w2 ⟨rfl, hb2⟩
      have R2 := HR.out.more hb2
      have HB2 := Lib.hid (HB.out.trans (hb2.mono HB.out.size))
      clear hb2 c0 c1 c2 c3
      obtain ⟨u0, d0⟩ := R2.cell (k * 4) (by omega)
      obtain ⟨u1, d1⟩ := (R2.store (k * 4) (.int .i64 x0)).cell (k * 4 + 1) (by omega)
      obtain ⟨u2, d2⟩ := ((R2.store (k * 4) (.int .i64 x0)).store (k * 4 + 1) (.int .i64 x1)).cell (k * 4 + 2) (by omega)
      obtain ⟨u3, d3⟩ := (((R2.store (k * 4) (.int .i64 x0)).store (k * 4 + 1) (.int .i64 x1)).store (k * 4 + 2) (.int .i64 x2)).cell (k * 4 + 3) (by omega)
      have hf := World.ownsRow.frozenAt R2.1
      have HST := Lib.hid ((((R2.store (k * 4) (.int .i64 x0)).store (k * 4 + 1) (.int .i64 x1)).store (k * 4 + 2) (.int .i64 x2)).store (k * 4 + 3) (.string x3))
      clear R2
      go_wp2
      go_roundg (l.length - (k + 1))
      case measure => omega
      case rel => exact ⟨k + 1, _, by omega, rfl, by go_num, HLK.out, HST.out, ((((HB2.out.setCell (p := ⟨w.heap.size, k * 4, none⟩) (Nat.le_refl _) _).setCell (p := ⟨w.heap.size, k * 4 + 1, none⟩) (Nat.le_refl _) _).setCell (p := ⟨w.heap.size, k * 4 + 2, none⟩) (Nat.le_refl _) _).setCell (p := ⟨w.heap.size, k * 4 + 3, none⟩) (Nat.le_refl _) _)⟩
    · have hd : decide (k < l.length) = false := by simp; omega
      have hd' : decide ((k : Int) < (l.length : Int)) = false := by simp; omega
      obtain rfl : k = l.length := by omega
      have HO := Lib.hid (show OwnRc wr w.heap.size (.slice (some ⟨w.heap.size, 0, none⟩) l.length l.length) l from by
        have h := HTK.out
        rw [List.take_of_length_le (Nat.le_of_eq HR.out.2), List.take_of_length_le (Nat.le_refl _)] at h
        have h1 := HR.out.1
        rw [h] at h1
        exact OwnR.toO (E := 50) ⟨by rw [List.length_map]; exact h1, rc_len l⟩)
      go_wp2
      go_ret
      exact ⟨_, rfl, HO.out, HB.out⟩
end Go.Proofs.Ytckofkdeedbbgaa
/- What this text proves: a list of numbers that grows in a slice of the call's own: what an append of one number makes of it. -/
namespace Go.Proofs.Ytckofkdeedbbgaa
open Go.ChangeShapes Go.WideShapes Go.ChangeAt Go.RowKit

/-- A slice of ints that holds the numbers l in a block of its own, from block 'base' on. -/
def OwnI (w : World) (base : Nat) (v : Value) (l : List Int) : Prop := w.ownsRow base 3 1 v l.length (l.map (Value.int .i64))

theorem info_int : (Try.prog.info? 3).map (fun i => (i.zero, i.size, i.bytes)) = some (some (.int .i64 0), 1, 8) := by kernel_rfl

theorem OwnI.more {w w' : World} {base : Nat} {v : Value} {l : List Int} (h : OwnI w base v l) (hb : Below w.heap.size w w') : OwnI w' base v l := by
  refine World.ownsRow.kept (row := none) h ⟨hb.os, hb.tape, hb.output, hb.size, fun k hk _ => hb.block k hk⟩ ?_
  by_cases he : v.ownBlock = none
  · exact .inl he
  · exact .inr he
theorem OwnI.nil (w : World) (base : Nat) : OwnI w base (.slice none 0 0) [] := World.ownsRow_nil w base _ 1
theorem OwnI.empty (w : World) (base : Nat) (hb : base ≤ w.heap.size) : OwnI (w.alloc (.cells #[] 3)) base (.slice (some ⟨w.heap.size, 0, none⟩) 0 0) [] :=
  World.ownsRow_lit w #[] 0 hb (by decide) rfl
theorem OwnI.form {w : World} {base : Nat} {v : Value} {l : List Int} (h : OwnI w base v l) : ∃ A c, v = .slice A l.length c := by
  rcases h.2 with ⟨rfl, hn⟩ | ⟨g, cap, cur, rfl, _⟩
  · exact ⟨none, 0, by rw [hn]⟩
  · exact ⟨_, cap, rfl⟩
theorem OwnI.lower {w : World} {base base' : Nat} {v : Value} {l : List Int} (h : OwnI w base v l) (hb : base' ≤ base) : OwnI w base' v l := by
  refine ⟨h.1, ?_⟩
  rcases h.2 with h1 | ⟨g, cap, cur, h1, h2, h3⟩
  · exact .inl h1
  · exact .inr ⟨g, cap, cur, h1, Nat.le_trans hb h2, h3⟩

theorem app_int {ops : Array Oper} {rest : List Oper} {o : Oper} {a : Act} {Q : Exit → Act → World → Prop} (w : World) (hgd : o.guard = none) (s x : Operand)
    (ho : o.op = .call { callee := .builtin .append, args := #[s, x], argTypes := #[24, 24] })
    (base : Nat) (v : Value) (l : List Int) (t : Int) (hs : a.eval s = v) (hown : OwnI w base v l) (T : TypeId) (c : Nat)
    (hx : a.eval x = .slice (some ⟨w.heap.size, 0, none⟩) 1 c)
    (hlen : l.length ≤ 1099511627) (hbase : base ≤ w.heap.size)
    (h : ∀ v' w', OwnI w' base v' (l ++ [t]) → Below base w w' → w.heap.size ≤ w'.heap.size → wpList Try.prog ops Q rest (a.put o.dst v') w') :
    wpList Try.prog ops Q (o :: rest) a (w.alloc (.cells #[.int .i64 t] T)) := by
  obtain ⟨i, hi, hz0, hz1, hz2⟩ := info_parts info_int
  have hown' : (w.alloc (.cells #[.int .i64 t] T)).ownsRow base 3 1 v l.length (l.map (Value.int .i64)) := World.ownsRow.alloc hown _
  refine wpList_append_own _ hgd s x 24 ho base 3 i (.int .i64 0) 1 8 Try.underlying24 hi hz0 hz1 hz2 rfl (by decide) v l.length (l.map (Value.int .i64)) hs hown'
    ⟨w.heap.size, 0, none⟩ 1 c [.int .i64 t] hx rfl (fun j u hu => ?_) (fun u hu => ?_) (by unfold maxLen; omega) (by omega) (by simp; omega) (fun v' w' hown2 hg _ => ?_)
  · rw [show (⟨w.heap.size, 0, none⟩ : Addr).add j = ⟨w.heap.size, j, none⟩ from by unfold Addr.add; split <;> simp_all]
    rw [World.cell?_alloc_at _ _ _ _ rfl]
    simpa using hu
  · obtain rfl : u = .int .i64 t := by simpa using hu
    rfl
  · have hz : w.heap.size ≤ w'.heap.size := by have := hg.size; simp at this; omega
    refine h v' w' ?_ ?_ hz
    · unfold OwnI
      rw [List.length_append, List.map_append]
      exact hown2
    · exact ((Below.refl base w).alloc hbase _).grown hg (by simp; omega) fun k hk => (World.ownsRow.lt hown' k hk).1
end Go.Proofs.Ytckofkdeedbbgaa
