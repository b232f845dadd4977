/- What this text proves: the parts RcS, RcT of the proof, each under its own words. -/
import Derived.Test.YtckofkdeedbbgaaNN02
import Derived.Test.YtckofkdeedbbgaaNN05
import Derived.Laws.Concat
import Derived.Deep.RegionLaw
import Derived.Deep.LoopGhost
import Derived.BigRegion
import Derived.Outline
import Derived.Test.YtckofkdeedbbgaaNN01
import Derived.Laws.MakeOwn
/- What this text proves: lists of records somewhere in a block of the call's own: their cells; the laws' own comparison finds equal ones equal. -/
namespace Go.Proofs.Ytckofkdeedbbgaa
open Go.ChangeShapes Go.WideShapes Go.ChangeAt Go.RowKit
set_option linter.unusedVariables false


abbrev Rc := Int × Int × Int × ByteArray
abbrev rcC (p : Rc) : List Value := [.int .i64 p.1, .int .i64 p.2.1, .int .i64 p.2.2.1, .string p.2.2.2]
abbrev OwnRc (w : World) (base : Nat) (v : Value) (l : List Rc) : Prop := LsO 4 w base v (l.map rcC)
theorem info_rc : (Try.prog.info? 50).map (fun i => (i.zero, i.size, i.bytes)) = some (some (.agg #[.int .i64 0, .int .i64 0, .int .i64 0, .string ⟨#[]⟩]), 4, 40) := by kernel_rfl
theorem rc_len (l : List Rc) : ∀ x ∈ l.map rcC, x.length = 4 := fun x hx => by obtain ⟨q, _, rfl⟩ := List.mem_map.1 hx; rfl
theorem rc_one (l : List Rc) : ∀ x ∈ l.map rcC, ∀ u ∈ x, u.oneCell' = true := fun x hx u hu => by
  obtain ⟨q, _, rfl⟩ := List.mem_map.1 hx
  simp only [rcC, List.mem_cons, List.not_mem_nil, or_false] at hu
  rcases hu with rfl | rfl | rfl | rfl <;> rfl
theorem rcCells {w : World} {base g off N c : Nat} {l : List Rc} (h : OwnRc w base (.slice (some ⟨g, off, none⟩) N c) l) (k : Nat) (hk : k < l.length) : w.cell? ⟨g, off + k * 4, none⟩ = some (.int .i64 l[k].1) ∧ w.cell? ⟨g, off + k * 4 + 1, none⟩ = some (.int .i64 l[k].2.1) ∧ w.cell? ⟨g, off + k * 4 + 2, none⟩ = some (.int .i64 l[k].2.2.1) ∧ w.cell? ⟨g, off + k * 4 + 3, none⟩ = some (.string l[k].2.2.2) := by
  have hc := (h.at rfl (by rw [List.length_map]; omega)).1
  have h0 := hc k (by rw [List.length_map]; exact hk) 0 (by decide)
  have h1 := hc k (by rw [List.length_map]; exact hk) 1 (by decide)
  have h2 := hc k (by rw [List.length_map]; exact hk) 2 (by decide)
  have h3 := hc k (by rw [List.length_map]; exact hk) 3 (by decide)
  simp only [List.getElem_map] at h0 h1 h2 h3
  exact ⟨h0, h1, h2, h3⟩
theorem rcCellsI {w : World} {B b off : Nat} {A : Option Addr} {l : List Rc} (h : LsI 4 w B A (l.map rcC)) (h0 : 0 < l.length) : ∃ b off, A = some ⟨b, off, none⟩ ∧ b < B ∧ ∀ k (hk : k < l.length), w.cell? ⟨b, off + k * 4, none⟩ = some (.int .i64 l[k].1) ∧ w.cell? ⟨b, off + k * 4 + 1, none⟩ = some (.int .i64 l[k].2.1) ∧ w.cell? ⟨b, off + k * 4 + 2, none⟩ = some (.int .i64 l[k].2.2.1) ∧ w.cell? ⟨b, off + k * 4 + 3, none⟩ = some (.string l[k].2.2.2) := by
  rcases h with h | ⟨b, off, hA, hb, hc⟩
  · rw [List.length_map] at h; omega
  · refine ⟨b, off, hA, hb, fun k hk => ?_⟩
    have h0 := hc k (by rw [List.length_map]; exact hk) 0 (by decide)
    have h1 := hc k (by rw [List.length_map]; exact hk) 1 (by decide)
    have h2 := hc k (by rw [List.length_map]; exact hk) 2 (by decide)
    have h3 := hc k (by rw [List.length_map]; exact hk) 3 (by decide)
    simp only [List.getElem_map] at h0 h1 h2 h3
    exact ⟨h0, h1, h2, h3⟩
theorem OwnRc.nform {w : World} {base : Nat} {v : Value} {l : List Rc} (h : OwnRc w base v l) : ∃ A c, v = .slice A l.length c := by
  obtain ⟨A, c, h1⟩ := LsO.form h
  exact ⟨A, c, by rw [h1, List.length_map]⟩

set_option maxHeartbeats 2000000 in
theorem eqRc_any (w : World) (b1 b2 : Nat) (v1 v2 : Value) (l : List Rc) (hl : l.length ≤ 2000000) (h1 : OwnRc w b1 v1 l) (h2 : OwnRc w b2 v2 l) :
    Calls Try.prog 103 #[v1, v2] w fun e w' => e = .returned (.bool true) ∧ Below w.heap.size w w' := by
  obtain ⟨A1, c1, rfl⟩ := OwnRc.nform h1
  obtain ⟨A2, c2, rfl⟩ := OwnRc.nform h2
  rcases Nat.eq_zero_or_pos l.length with h0 | h0
  · rw [h0]
    go_enter Try.func103, Try.ntmps103
    go_wp2
    refine wp_loop_rounds 1 ?_
    rw [rounds_succ]
    go_wp2
    go_ret
    exact ⟨rfl, Below.refl _ _⟩
  · obtain ⟨g1, o1, ⟨d1, e1⟩, _, _⟩ := h1.rows (by rw [List.length_map]; exact h0)
    obtain ⟨g2, o2, ⟨d2, e2⟩, _, _⟩ := h2.rows (by rw [List.length_map]; exact h0)
    injection e1 with e1 e1b e1c
    injection e2 with e2 e2b e2c
    clear e1b e1c e2b e2c
    subst e1 e2
    have hg1 := (h1.block rfl).2
    have hg2 := (h2.block rfl).2
    have H1 := Lib.hid (fun k hk => rcCells h1 k hk)
    have H2 := Lib.hid (fun k hk => rcCells h2 k hk)
    have HE := Lib.hid (fun x0 x1 x2 x3 W => eq_rcd x0 x1 x2 x3 W)
    clear h1 h2
    go_enter Try.func103, Try.ntmps103
    go_wp2
    go_loopg [5] l.length (fun g v5 wx => ∃ k : Nat, k ≤ l.length ∧ g = l.length - k ∧ v5 = .int .i64 (k : Int) ∧ Below w.heap.size w wx)
    case atStart => exact ⟨0, by omega, rfl, rfl, Below.refl _ _⟩
    case round =>
      obtain ⟨k, hk, rfl, rfl, hbel⟩ := hrel
      have HB := Lib.hid hbel
      by_cases hlt : k < l.length
      · have hd : decide (k < l.length) = true := by simp; omega
        obtain ⟨x0, x1, x2, x3⟩ := H1.out k hlt
        obtain ⟨y0, y1, y2, y3⟩ := H2.out k hlt
        have cx0 := (hbel.cell (p := ⟨g1, o1 + k * 4, none⟩) hg1).trans x0
        have cx1 := (hbel.cell (p := ⟨g1, o1 + k * 4 + 1, none⟩) hg1).trans x1
        have cx2 := (hbel.cell (p := ⟨g1, o1 + k * 4 + 2, none⟩) hg1).trans x2
        have cx3 := (hbel.cell (p := ⟨g1, o1 + k * 4 + 3, none⟩) hg1).trans x3
        have cy0 := (hbel.cell (p := ⟨g2, o2 + k * 4, none⟩) hg2).trans y0
        have cy1 := (hbel.cell (p := ⟨g2, o2 + k * 4 + 1, none⟩) hg2).trans y1
        have cy2 := (hbel.cell (p := ⟨g2, o2 + k * 4 + 2, none⟩) hg2).trans y2
        have cy3 := (hbel.cell (p := ⟨g2, o2 + k * 4 + 3, none⟩) hg2).trans y3
        clear x0 x1 x2 x3 y0 y1 y2 y3 hbel
        generalize l[k].1 = a0 at *
        generalize l[k].2.1 = a1 at *
        generalize l[k].2.2.1 = a2 at *
        generalize l[k].2.2.2 = a3 at *
        go_wp2
        go_region_law ((go_simp; go_at_call 149; (with_reducible refine (HE.out _ _ _ _ _).mono ?_); rintro e w2 ⟨rfl, hb2⟩))
        all_goals go_wp2
        all_goals
          go_roundg (l.length - (k + 1))
          case measure => omega
          case rel => exact ⟨k + 1, by omega, rfl, by go_num, HB.out.drew.trans (hb2.mono HB.out.drew.size)⟩
      · have hd : decide (k < l.length) = false := by simp; omega
        clear hlt
        go_wp2
        go_ret
        exact ⟨rfl, HB.out⟩
end Go.Proofs.Ytckofkdeedbbgaa
/- What this text proves: the contracts of the laws' own functions over a list of records that was handed to them: its size, its copy. -/
namespace Go.Proofs.Ytckofkdeedbbgaa
open Go.ChangeShapes Go.WideShapes Go.ChangeAt Go.RowKit
set_option linter.unusedVariables false


abbrev rc0 : Rc := (0, 0, 0, ⟨#[]⟩)
/-- The bytes of the first k. -/
def totRc (fs : List Rc) : Nat → Nat
  | 0 => 0
  | k + 1 => totRc fs k + (fs.getD k rc0).2.2.2.size
theorem totRc_le (fs : List Rc) {j k : Nat} (h : j ≤ k) : totRc fs j ≤ totRc fs k := by
  induction k with
  | zero => obtain rfl : j = 0 := by omega
            exact Nat.le_refl _
  | succ k ih =>
    rcases Nat.lt_or_ge j (k + 1) with h1 | h1
    · exact Nat.le_trans (ih (by omega)) (Nat.le_add_right _ _)
    · obtain rfl : j = k + 1 := by omega
      exact Nat.le_refl _
theorem getRc_at {l : List Rc} {k : Nat} (h : k < l.length) : l.getD k rc0 = l[k] := by
  rw [List.getD_eq_getElem?_getD, List.getElem?_eq_getElem h]
  rfl
theorem totRc_at (l : List Rc) {k : Nat} (h : k < l.length) : l[k].2.2.2.size ≤ totRc l l.length := by
  have h1 : totRc l (k + 1) = totRc l k + l[k].2.2.2.size := by simp only [totRc]; rw [getRc_at h]
  have h2 := totRc_le l (show k + 1 ≤ l.length from h)
  omega

set_option maxHeartbeats 2000000 in
theorem sz_rcs (A : Option Addr) (l : List Rc) (c L : Nat) (hl : l.length ≤ maxLen) (hs : ∀ j (hj : j < l.length), l[j].2.2.2.size ≤ maxLen) (hL : L ≤ 1048576) (w : World) (h : LsI 4 w w.heap.size A (l.map rcC)) :
    Calls Try.prog 94 #[.slice A l.length c, .int .i64 (L : Int)] w fun e w' => e = .returned (.int .i64 (if l.length + totRc l l.length ≤ L then (L : Int) - ((l.length : Int) + (totRc l l.length : Int)) else -1)) ∧ Below w.heap.size w w' := by
  have hl' : l.length ≤ 9223372036854775807 := by unfold maxLen at hl; omega
  by_cases h0 : l.length ≤ L
  · have hd0 : decide ((L : Int) - (l.length : Int) < 0) = false := by simp; omega
    have HS := Lib.hid (fun x0 x1 x2 x3 L hL hd W => sz_rcd x0 x1 x2 x3 L hL hd W)
    have HI := Lib.hid (fun W (hb : Below w.heap.size w W) => h.more hb)
    have HZ := Lib.hid hs
    clear h hs
    go_enter Try.func94, Try.ntmps94
    go_wp2
    go_loopg [1, 5] l.length (fun gh v1 v5 wx => ∃ k : Nat, k ≤ l.length ∧ gh = l.length - k ∧ v5 = .int .i64 (k : Int) ∧ l.length + totRc l k ≤ L ∧ v1 = .int .i64 (((L - l.length - totRc l k : Nat) : Int)) ∧ Below w.heap.size w wx)
    case atStart => exact ⟨0, by omega, rfl, rfl, by simpa [totRc] using h0, by simp only [totRc]; congr 1; omega, Below.refl _ _⟩
    case round =>
      obtain ⟨k, hk, rfl, rfl, hLk, rfl, hbel⟩ := hrel
      have HB := Lib.hid hbel
      by_cases hlt : k < l.length
      · have hd : decide (k < l.length) = true := by simp; omega
        have hd' : decide ((k : Int) < (l.length : Int)) = true := by simp; omega
        obtain ⟨b, off, rfl, hb, hc⟩ := rcCellsI (b := 0) (off := 0) (HI.out _ hbel) (by omega)
        obtain ⟨c0, c1, c2, c3⟩ := hc k hlt
        have hz := HZ.out k hlt
        have htot : totRc l (k + 1) = totRc l k + l[k].2.2.2.size := by simp only [totRc]; rw [getRc_at hlt]
        have hle := totRc_le l (show k + 1 ≤ l.length from hlt)
        have HCL := Lib.hid (HS.out l[k].1 l[k].2.1 l[k].2.2.1 l[k].2.2.2 (L - l.length - totRc l k) (by omega) hz)
        have HTT := Lib.hid htot
        have HLE := Lib.hid hle
        clear hc hz htot hle hbel
        generalize l[k].1 = x0 at *
        generalize l[k].2.1 = x1 at *
        generalize l[k].2.2.1 = x2 at *
        generalize l[k].2.2.2 = x3 at *
        go_wp2_with fail
        refine (HCL.out _).mono ?_
        rintro e w2 ⟨rfl, hb2⟩
        have HB2 := Lib.hid (HB.out.trans (hb2.mono HB.out.size))
        clear hb2 c0 c1 c2 c3
        by_cases hfit : x3.size ≤ L - l.length - totRc l k
        · rw [if_pos hfit]
          have hd1 : decide (((L - l.length - totRc l k : Nat) : Int) - (x3.size : Int) < 0) = false := by simp; omega
          have HV := Lib.hid (show ((L - l.length - totRc l k : Nat) : Int) - (x3.size : Int) = ((L - l.length - totRc l (k + 1) : Nat) : Int) from by rw [HTT.out]; omega)
          have HN := Lib.hid (show l.length + totRc l (k + 1) ≤ L from by rw [HTT.out]; omega)
          obtain ⟨V, hV⟩ : ∃ V, ((L - l.length - totRc l k : Nat) : Int) - (x3.size : Int) = V := ⟨_, rfl⟩
          rw [hV] at hd1 HV
          rw [hV]
          clear hV
          go_wp2
          go_roundg (l.length - (k + 1))
          case measure => omega
          case rel => exact ⟨k + 1, by omega, rfl, by go_num, HN.out, by rw [HV.out], HB2.out⟩
        · rw [if_neg hfit]
          have HF := Lib.hid (show ¬ (l.length + totRc l l.length ≤ L) from by have h1 := HTT.out; have h2 := HLE.out; omega)
          go_wp2
          go_ret
          exact ⟨by first | rfl | (rw [if_neg HF.out]; rfl), HB2.out⟩
      · have hd : decide (k < l.length) = false := by simp; omega
        have hd' : decide ((k : Int) < (l.length : Int)) = false := by simp; omega
        obtain rfl : k = l.length := by omega
        have HV := Lib.hid (show ((L - l.length - totRc l l.length : Nat) : Int) = (L : Int) - ((l.length : Int) + (totRc l l.length : Int)) from by omega)
        go_wp2
        go_ret
        exact ⟨by first | (rw [← HV.out]; rfl) | (rw [if_pos hLk, ← HV.out]; rfl), HB.out⟩
  · rw [if_neg (by omega)]
    have hd0 : decide ((L : Int) - (l.length : Int) < 0) = true := by simp; omega
    clear h hs
    go_enter Try.func94, Try.ntmps94
    go_wp2
    go_ret
    exact ⟨rfl, Below.refl _ _⟩

theorem take_rc (xs : List Value) (j : Nat) (a0 a1 a2 a3 : Value) (h : j + 4 ≤ xs.length) : (((((xs.set (j) a0).set (j + 1) a1).set (j + 2) a2).set (j + 3) a3)).take (j + 4) = xs.take j ++ [a0, a1, a2, a3] := by
  apply List.ext_getElem?
  intro i
  rw [List.getElem?_append, List.length_take, Nat.min_eq_left (by omega)]
  by_cases h1 : i < j
  · rw [if_pos h1, List.getElem?_take_of_lt (by omega), List.getElem?_set_ne (by omega), List.getElem?_set_ne (by omega), List.getElem?_set_ne (by omega), List.getElem?_set_ne (by omega), List.getElem?_take_of_lt h1]
  · rw [if_neg h1]
    by_cases h2 : i < j + 4
    · rw [List.getElem?_take_of_lt h2]
      rcases (show i = j ∨ i = j + 1 ∨ i = j + 2 ∨ i = j + 3 by omega) with rfl | rfl | rfl | rfl
      · rw [List.getElem?_set_ne (by omega), List.getElem?_set_ne (by omega), List.getElem?_set_ne (by omega), List.getElem?_set_self (by first | omega | (simp only [List.length_set]; omega))]; simp
      · rw [List.getElem?_set_ne (by omega), List.getElem?_set_ne (by omega), List.getElem?_set_self (by first | omega | (simp only [List.length_set]; omega))]; simp
      · rw [List.getElem?_set_ne (by omega), List.getElem?_set_self (by first | omega | (simp only [List.length_set]; omega))]; simp
      · rw [List.getElem?_set_self (by first | omega | (simp only [List.length_set]; omega))]; simp
    · rw [List.getElem?_eq_none (by simp; omega), List.getElem?_eq_none (by simp; omega)]
/-- A slice of n in the making: its cells. -/
def RowRc (w : World) (base g n : Nat) (xs : List Value) : Prop := w.ownsRow base 50 4 (.slice (some ⟨g, 0, none⟩) n n) n xs ∧ xs.length = n * 4
theorem RowRc.more {w w' : World} {base g n : Nat} {xs : List Value} (h : RowRc w base g n xs) (hb : Below w.heap.size w w') : RowRc w' base g n xs :=
  ⟨World.ownsRow.kept (row := none) h.1 ⟨hb.os, hb.tape, hb.output, hb.size, fun k hk _ => hb.block k hk⟩ (.inr (by simp [Value.ownBlock])), h.2⟩
theorem RowRc.store {w : World} {base g n : Nat} {xs : List Value} (h : RowRc w base g n xs) (j : Nat) (u : Value) : RowRc (w.setCell ⟨g, j, none⟩ u) base g n (xs.set j u) := ⟨(World.ownsRow.stored h.1 j u).1, by rw [List.length_set]; exact h.2⟩
theorem RowRc.cell {w : World} {base g n : Nat} {xs : List Value} (h : RowRc w base g n xs) (j : Nat) (hj : j < n * 4) : ∃ u, w.cell? ⟨g, j, none⟩ = some u :=
  ⟨xs[j]'(by rw [h.2]; exact hj), by rw [World.ownsRow.cellAt h.1 j hj]; exact List.getElem?_eq_getElem _⟩
theorem make_rcs (W : World) (n : Nat) (hn : n ≤ 1048576) : ∃ cs, (Instr.makeSlice 28 (.int .i64 (n : Int)) (.int .i64 (n : Int))).run Try.prog W = .ok (.slice (some ⟨W.heap.size, 0, none⟩) n n) (W.alloc (.cells cs 50)) ∧ RowRc (W.alloc (.cells cs 50)) W.heap.size W.heap.size n cs.toList := by
  obtain ⟨i, hi, hz0, hz1, hz2⟩ := info_parts info_rc
  have h := run_make (P := Try.prog) W 28 50 i (.agg #[.int .i64 0, .int .i64 0, .int .i64 0, .string ⟨#[]⟩]) Try.underlying28 hi hz0 .i64 .i64 n n (by omega) (by omega) (by rw [hz2]; omega) (by omega)
  rw [hz1] at h
  refine ⟨_, by simpa using h, World.ownsRow_lit (base := W.heap.size) (e := 50) (size := 4) W _ n (Nat.le_refl _) (by unfold maxLen; omega) (by rw [size_madeCells]), by rw [Array.length_toList, size_madeCells]⟩

set_option maxHeartbeats 2000000 in
theorem to_rcs (A : Option Addr) (l : List Rc) (c : Nat) (hl : l.length ≤ 1048576) (w : World) (h : LsI 4 w w.heap.size A (l.map rcC)) :
    Calls Try.prog 101 #[.slice A l.length c] w fun e w' => ∃ v, e = .returned v ∧ OwnRc w' w.heap.size v l ∧ Below w.heap.size w w' := by
  obtain ⟨cs, hmk, hrow0⟩ := make_rcs w l.length hl
  have HR0 := Lib.hid hrow0
  have HB0 := Lib.hid ((Below.refl _ w).alloc (Nat.le_refl _) (.cells cs 50))
  have HI := Lib.hid (fun W (hb : Below w.heap.size w W) => h.more hb)
  have HT := Lib.hid (fun x0 x1 x2 x3 W => to_rcd x0 x1 x2 x3 W)
  clear h hrow0
  go_enter Try.func101, Try.ntmps101
  go_wp2
  clear hmk
  go_loopg [4] l.length (fun gh v4 wx => ∃ (k : Nat) (xs : List Value), k ≤ l.length ∧ gh = l.length - k ∧ v4 = .int .i64 (k : Int) ∧ xs.take (k * 4) = ((l.take k).map rcC).flatten ∧ RowRc wx w.heap.size w.heap.size l.length xs ∧ Below w.heap.size w wx)
  case atStart => exact ⟨0, cs.toList, by omega, rfl, rfl, by simp, HR0.out, HB0.out⟩
  case round =>
    obtain ⟨k, xs, hk, rfl, rfl, htk, hrow, hbel⟩ := hrel
    have HTK := Lib.hid htk
    have HB := Lib.hid hbel
    have HR := Lib.hid hrow
    clear htk hrow
    by_cases hlt : k < l.length
    · have hd : decide (k < l.length) = true := by simp; omega
      have hd' : decide ((k : Int) < (l.length : Int)) = true := by simp; omega
      obtain ⟨b, off, rfl, hb, hc⟩ := rcCellsI (b := 0) (off := 0) (HI.out _ hbel) (by omega)
      obtain ⟨c0, c1, c2, c3⟩ := hc k hlt
      have HLK := Lib.hid (show (((((xs.set (k * 4) (.int .i64 l[k].1)).set (k * 4 + 1) (.int .i64 l[k].2.1)).set (k * 4 + 2) (.int .i64 l[k].2.2.1)).set (k * 4 + 3) (.string l[k].2.2.2))).take ((k + 1) * 4) = ((l.take (k + 1)).map rcC).flatten from by
        rw [show (k + 1) * 4 = k * 4 + 4 by omega, take_rc _ _ _ _ _ _ (by have := HR.out.2; omega), HTK.out, List.take_succ_eq_append_getElem hlt, List.map_append, List.flatten_append]
        simp)
      clear hc hbel
      generalize l[k].1 = x0 at *
      generalize l[k].2.1 = x1 at *
      generalize l[k].2.2.1 = x2 at *
      generalize l[k].2.2.2 = x3 at *
      go_wp2_with fail
      refine (HT.out _ _ _ _ _).mono ?_
      rintro e w2 ⟨rfl, hb2⟩
      have R2 := HR.out.more hb2
      have HB2 := Lib.hid (HB.out.trans (hb2.mono HB.out.size))
      clear hb2 c0 c1 c2 c3
      obtain ⟨u0, d0⟩ := R2.cell (k * 4) (by omega)
      obtain ⟨u1, d1⟩ := (R2.store (k * 4) (.int .i64 x0)).cell (k * 4 + 1) (by omega)
      obtain ⟨u2, d2⟩ := ((R2.store (k * 4) (.int .i64 x0)).store (k * 4 + 1) (.int .i64 x1)).cell (k * 4 + 2) (by omega)
      obtain ⟨u3, d3⟩ := (((R2.store (k * 4) (.int .i64 x0)).store (k * 4 + 1) (.int .i64 x1)).store (k * 4 + 2) (.int .i64 x2)).cell (k * 4 + 3) (by omega)
      have hf := World.ownsRow.frozenAt R2.1
      have HST := Lib.hid ((((R2.store (k * 4) (.int .i64 x0)).store (k * 4 + 1) (.int .i64 x1)).store (k * 4 + 2) (.int .i64 x2)).store (k * 4 + 3) (.string x3))
      clear R2
      go_wp2
      go_roundg (l.length - (k + 1))
      case measure => omega
      case rel => exact ⟨k + 1, _, by omega, rfl, by go_num, HLK.out, HST.out, ((((HB2.out.setCell (p := ⟨w.heap.size, k * 4, none⟩) (Nat.le_refl _) _).setCell (p := ⟨w.heap.size, k * 4 + 1, none⟩) (Nat.le_refl _) _).setCell (p := ⟨w.heap.size, k * 4 + 2, none⟩) (Nat.le_refl _) _).setCell (p := ⟨w.heap.size, k * 4 + 3, none⟩) (Nat.le_refl _) _)⟩
    · have hd : decide (k < l.length) = false := by simp; omega
      have hd' : decide ((k : Int) < (l.length : Int)) = false := by simp; omega
      obtain rfl : k = l.length := by omega
      have HO := Lib.hid (show OwnRc wr w.heap.size (.slice (some ⟨w.heap.size, 0, none⟩) l.length l.length) l from by
        have h := HTK.out
        rw [List.take_of_length_le (Nat.le_of_eq HR.out.2), List.take_of_length_le (Nat.le_refl _)] at h
        have h1 := HR.out.1
        rw [h] at h1
        exact OwnR.toO (E := 50) ⟨by rw [List.length_map]; exact h1, rc_len l⟩)
      go_wp2
      go_ret
      exact ⟨_, rfl, HO.out, HB.out⟩
end Go.Proofs.Ytckofkdeedbbgaa
