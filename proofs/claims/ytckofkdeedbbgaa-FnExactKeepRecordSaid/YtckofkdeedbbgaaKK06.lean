/- What this text proves: the parts BufI, InS, MarkI of the proof, each under its own words. -/
import Derived.Test.YtckofkdeedbbgaaKK00
import Derived.WalkKit
import Derived.LoopTactic
import Derived.IntWalk
import Derived.OwnWalk
import Derived.Laws.AppendOwn
import Derived.Laws.OwnMore
import Derived.Lib.Hide
import Derived.Test.YtckofkdeedbbgaaKK02
import Derived.Deep.LoopGhost
import Derived.BigQuiet
import Derived.BigRegion
import Derived.Outline
import Derived.Laws.Concat
import Derived.Deep.QuietTactic
import Derived.Deep.RegionLaw
/- What this text proves: a list of numbers that grows in a slice of the call's own: what an append of one number makes of it. -/
namespace Go.Proofs.Ytckofkdeedbbgaa
open Go.ChangeShapes Go.WideShapes Go.ChangeAt Go.RowKit

/-- A slice of ints that holds the numbers l in a block of its own, from block 'base' on. -/
def OwnI (w : World) (base : Nat) (v : Value) (l : List Int) : Prop := w.ownsRow base 3 1 v l.length (l.map (Value.int .i64))

theorem info_int : (Try.prog.info? 3).map (fun i => (i.zero, i.size, i.bytes)) = some (some (.int .i64 0), 1, 8) := by kernel_rfl

theorem OwnI.more {w w' : World} {base : Nat} {v : Value} {l : List Int} (h : OwnI w base v l) (hb : Below w.heap.size w w') : OwnI w' base v l := by
  refine World.ownsRow.kept (row := none) h ⟨hb.os, hb.tape, hb.output, hb.size, fun k hk _ => hb.block k hk⟩ ?_
  by_cases he : v.ownBlock = none
  · exact .inl he
  · exact .inr he
theorem OwnI.nil (w : World) (base : Nat) : OwnI w base (.slice none 0 0) [] := World.ownsRow_nil w base _ 1
theorem OwnI.empty (w : World) (base : Nat) (hb : base ≤ w.heap.size) : OwnI (w.alloc (.cells #[] 3)) base (.slice (some ⟨w.heap.size, 0, none⟩) 0 0) [] :=
  World.ownsRow_lit w #[] 0 hb (by decide) rfl
theorem OwnI.form {w : World} {base : Nat} {v : Value} {l : List Int} (h : OwnI w base v l) : ∃ A c, v = .slice A l.length c := by
  rcases h.2 with ⟨rfl, hn⟩ | ⟨g, cap, cur, rfl, _⟩
  · exact ⟨none, 0, by rw [hn]⟩
  · exact ⟨_, cap, rfl⟩
theorem OwnI.lower {w : World} {base base' : Nat} {v : Value} {l : List Int} (h : OwnI w base v l) (hb : base' ≤ base) : OwnI w base' v l := by
  refine ⟨h.1, ?_⟩
  rcases h.2 with h1 | ⟨g, cap, cur, h1, h2, h3⟩
  · exact .inl h1
  · exact .inr ⟨g, cap, cur, h1, Nat.le_trans hb h2, h3⟩

theorem app_int {ops : Array Oper} {rest : List Oper} {o : Oper} {a : Act} {Q : Exit → Act → World → Prop} (w : World) (hgd : o.guard = none) (s x : Operand)
    (ho : o.op = .call { callee := .builtin .append, args := #[s, x], argTypes := #[24, 24] })
    (base : Nat) (v : Value) (l : List Int) (t : Int) (hs : a.eval s = v) (hown : OwnI w base v l) (T : TypeId) (c : Nat)
    (hx : a.eval x = .slice (some ⟨w.heap.size, 0, none⟩) 1 c)
    (hlen : l.length ≤ 1099511627) (hbase : base ≤ w.heap.size)
    (h : ∀ v' w', OwnI w' base v' (l ++ [t]) → Below base w w' → w.heap.size ≤ w'.heap.size → wpList Try.prog ops Q rest (a.put o.dst v') w') :
    wpList Try.prog ops Q (o :: rest) a (w.alloc (.cells #[.int .i64 t] T)) := by
  obtain ⟨i, hi, hz0, hz1, hz2⟩ := info_parts info_int
  have hown' : (w.alloc (.cells #[.int .i64 t] T)).ownsRow base 3 1 v l.length (l.map (Value.int .i64)) := World.ownsRow.alloc hown _
  refine wpList_append_own _ hgd s x 24 ho base 3 i (.int .i64 0) 1 8 Try.underlying24 hi hz0 hz1 hz2 rfl (by decide) v l.length (l.map (Value.int .i64)) hs hown'
    ⟨w.heap.size, 0, none⟩ 1 c [.int .i64 t] hx rfl (fun j u hu => ?_) (fun u hu => ?_) (by unfold maxLen; omega) (by omega) (by simp; omega) (fun v' w' hown2 hg _ => ?_)
  · rw [show (⟨w.heap.size, 0, none⟩ : Addr).add j = ⟨w.heap.size, j, none⟩ from by unfold Addr.add; split <;> simp_all]
    rw [World.cell?_alloc_at _ _ _ _ rfl]
    simpa using hu
  · obtain rfl : u = .int .i64 t := by simpa using hu
    rfl
  · have hz : w.heap.size ≤ w'.heap.size := by have := hg.size; simp at this; omega
    refine h v' w' ?_ ?_ hz
    · unfold OwnI
      rw [List.length_append, List.map_append]
      exact hown2
    · exact ((Below.refl base w).alloc hbase _).grown hg (by simp; omega) fun k hk => (World.ownsRow.lt hown' k hk).1
end Go.Proofs.Ytckofkdeedbbgaa
/- What this text proves: lists of numbers somewhere in a block of the call's own: their cells; the laws' own comparison finds equal ones equal. -/
namespace Go.Proofs.Ytckofkdeedbbgaa
open Go.ChangeShapes Go.WideShapes Go.ChangeAt Go.RowKit
set_option linter.unusedVariables false


abbrev inC (i : Int) : List Value := [.int .i64 i]
abbrev OwnIn (w : World) (base : Nat) (v : Value) (l : List Int) : Prop := LsO 1 w base v (l.map inC)
theorem in_len (l : List Int) : ∀ x ∈ l.map inC, x.length = 1 := fun x hx => by obtain ⟨q, _, rfl⟩ := List.mem_map.1 hx; rfl
theorem in_one (l : List Int) : ∀ x ∈ l.map inC, ∀ u ∈ x, u.oneCell' = true := fun x hx u hu => by
  obtain ⟨q, _, rfl⟩ := List.mem_map.1 hx
  simp only [inC, List.mem_cons, List.not_mem_nil, or_false] at hu
  subst hu
  rfl
theorem in_flat (l : List Int) : (l.map inC).flatten = l.map (Value.int .i64) := by
  induction l with
  | nil => rfl
  | cons a r ih => rw [List.map_cons, List.flatten_cons, ih]; rfl
theorem OwnI.toR {w : World} {base : Nat} {v : Value} {l : List Int} (h : OwnI w base v l) : OwnR 3 1 w base v (l.map inC) := ⟨by rw [in_flat, List.length_map]; exact h, in_len l⟩
theorem OwnI.toO {w : World} {base : Nat} {v : Value} {l : List Int} (h : OwnI w base v l) : OwnIn w base v l := OwnR.toO h.toR
theorem inCells {w : World} {base g off N c : Nat} {l : List Int} (h : OwnIn w base (.slice (some ⟨g, off, none⟩) N c) l) (k : Nat) (hk : k < l.length) : w.cell? ⟨g, off + k, none⟩ = some (.int .i64 l[k]) := by
  have hc := (h.at rfl (by rw [List.length_map]; omega)).1
  have h0 := hc k (by rw [List.length_map]; exact hk) 0 (by decide)
  simp only [List.getElem_map, Nat.mul_one] at h0
  exact h0
theorem inCellsI {w : World} {B : Nat} {A : Option Addr} {l : List Int} (h : LsI 1 w B A (l.map inC)) (h0 : 0 < l.length) : ∃ b off, A = some ⟨b, off, none⟩ ∧ b < B ∧ ∀ k (hk : k < l.length), w.cell? ⟨b, off + k, none⟩ = some (.int .i64 l[k]) := by
  rcases h with h | ⟨b, off, hA, hb, hc⟩
  · rw [List.length_map] at h; omega
  · refine ⟨b, off, hA, hb, fun k hk => ?_⟩
    have h0 := hc k (by rw [List.length_map]; exact hk) 0 (by decide)
    simp only [List.getElem_map, Nat.mul_one] at h0
    exact h0
theorem OwnIn.nform {w : World} {base : Nat} {v : Value} {l : List Int} (h : OwnIn w base v l) : ∃ A c, v = .slice A l.length c := by
  obtain ⟨A, c, h1⟩ := LsO.form h
  exact ⟨A, c, by rw [h1, List.length_map]⟩

set_option maxHeartbeats 1000000 in
theorem eqIn_any (w : World) (b1 b2 : Nat) (v1 v2 : Value) (l : List Int) (hl : l.length ≤ 2000000) (h1 : OwnIn w b1 v1 l) (h2 : OwnIn w b2 v2 l) :
    Calls Try.prog 104 #[v1, v2] w fun e w' => e = .returned (.bool true) ∧ Below w.heap.size w w' := by
  obtain ⟨A1, c1, rfl⟩ := OwnIn.nform h1
  obtain ⟨A2, c2, rfl⟩ := OwnIn.nform h2
  rcases Nat.eq_zero_or_pos l.length with h0 | h0
  · rw [h0]
    go_enter Try.func104, Try.ntmps104
    go_wp2
    refine wp_loop_rounds 1 ?_
    rw [rounds_succ]
    go_wp2
    go_ret
    exact ⟨rfl, Below.refl _ _⟩
  · obtain ⟨g1, o1, ⟨d1, e1⟩, _, _⟩ := h1.rows (by rw [List.length_map]; exact h0)
    obtain ⟨g2, o2, ⟨d2, e2⟩, _, _⟩ := h2.rows (by rw [List.length_map]; exact h0)
    injection e1 with e1 e1b e1c
    injection e2 with e2 e2b e2c
    clear e1b e1c e2b e2c
    subst e1 e2
    have H1 := Lib.hid (fun k hk => inCells h1 k hk)
    have H2 := Lib.hid (fun k hk => inCells h2 k hk)
    clear h1 h2
    go_enter Try.func104, Try.ntmps104
    go_wp2
    go_loopw [5] (fun i wr => ∃ k : Nat, k ≤ l.length ∧ i = .int .i64 (k : Int) ∧ ∃ d, wr = w.drewN d) (fun i _ => l.length - (intOf i).toNat)
    case atStart => exact ⟨0, by omega, rfl, 0, rfl⟩
    case round =>
      obtain ⟨k, hk, rfl, d, rfl⟩ := hrel
      by_cases hlt : k < l.length
      · have hd : decide (k < l.length) = true := by simp; omega
        have e1 := H1.out k hlt
        have e2 := H2.out k hlt
        generalize l[k] = t at e1 e2
        go_wp2
        go_quiet (fail)
        go_wp2
        refine ⟨⟨k + 1, by omega, by go_num, _, rfl⟩, by simp [intOf]; omega⟩
      · have hd : decide (k < l.length) = false := by simp; omega
        clear hlt
        go_wp2
        go_ret
        exact ⟨rfl, below_draws (Below.refl _ _) d⟩
end Go.Proofs.Ytckofkdeedbbgaa
/- What this text proves: the contracts of the laws' own functions over lists of numbers: two lists that hold the same numbers are found equal; marks that were written are found again. -/
namespace Go.Proofs.Ytckofkdeedbbgaa
open Go.ChangeShapes Go.WideShapes Go.ChangeAt Go.RowKit
set_option linter.unusedVariables false

theorem OwnI.rows {w : World} {base : Nat} {v : Value} {l : List Int} (h : OwnI w base v l) (hn : 0 < l.length) :
    ∃ g cap, v = .slice (some ⟨g, 0, none⟩) l.length cap ∧ base ≤ g ∧ g < w.heap.size ∧ (∀ j (hj : j < l.length), w.cell? ⟨g, j, none⟩ = some (.int .i64 l[j])) ∧ (∀ j, w.frozen? ⟨g, j, none⟩ = false) := by
  rcases h.2 with ⟨_, h0⟩ | ⟨g, cap, cur, hv, hb, hh, h1, h2, h3, h4⟩
  · omega
  · have hg : g < w.heap.size := by
      rcases Nat.lt_or_ge g w.heap.size with h5 | h5
      · exact h5
      · rw [Array.getElem?_eq_none h5] at hh; cases hh
    subst hv
    refine ⟨g, cap, rfl, hb, hg, fun j hj => ?_, fun j => ?_⟩
    · have hc := World.ownsRow.cellAt h j (by omega)
      rw [hc]
      simp [hj]
    · exact World.ownsRow.frozenAt h j

set_option maxHeartbeats 1000000 in
theorem eqI_any (w : World) (b1 b2 : Nat) (v1 v2 : Value) (l : List Int) (hl : l.length ≤ 2000000) (h1 : OwnI w b1 v1 l) (h2 : OwnI w b2 v2 l) :
    Calls Try.prog 104 #[v1, v2] w fun e w' => e = .returned (.bool true) ∧ ∃ d, w' = w.drewN d := by
  rcases Nat.eq_zero_or_pos l.length with h0 | h0
  · obtain ⟨A1, c1, rfl⟩ := h1.form
    obtain ⟨A2, c2, rfl⟩ := h2.form
    rw [h0]
    go_enter Try.func104, Try.ntmps104
    go_wp2
    refine wp_loop_rounds 1 ?_
    rw [rounds_succ]
    go_wp2
    go_ret
    exact ⟨rfl, 0, rfl⟩
  · obtain ⟨g1, c1, rfl, _, _, hc1, _⟩ := h1.rows h0
    obtain ⟨g2, c2, rfl, _, _, hc2, _⟩ := h2.rows h0
    have H1 := Lib.hid hc1
    have H2 := Lib.hid hc2
    clear hc1 hc2 h1 h2
    go_enter Try.func104, Try.ntmps104
    go_wp2
    go_loopw [5] (fun i wr => ∃ k : Nat, k ≤ l.length ∧ i = .int .i64 (k : Int) ∧ ∃ d, wr = w.drewN d) (fun i _ => l.length - (intOf i).toNat)
    case atStart => exact ⟨0, by omega, rfl, 0, rfl⟩
    case round =>
      obtain ⟨k, hk, rfl, d, rfl⟩ := hrel
      by_cases hlt : k < l.length
      · have hd : decide (k < l.length) = true := by simp; omega
        have e1 := H1.out k hlt
        have e2 := H2.out k hlt
        generalize l[k] = t at e1 e2
        go_wp2
        go_quiet (fail)
        go_wp2
        refine ⟨⟨k + 1, by omega, by go_num, _, rfl⟩, by simp [intOf]; omega⟩
      · have hd : decide (k < l.length) = false := by simp; omega
        clear hlt
        go_wp2
        go_ret
        exact ⟨rfl, d, rfl⟩


/-- The marks from k on. -/
def marksI (k : Nat) : Nat → List Int
  | 0 => []
  | n + 1 => marksI k n ++ [((k + n : Nat) : Int)]
theorem marksI_len (k n : Nat) : (marksI k n).length = n := by
  induction n with
  | zero => rfl
  | succ n ih => simp [marksI, ih]
theorem marksI_at (k n j : Nat) (hj : j < (marksI k n).length) : (marksI k n)[j] = ((k + j : Nat) : Int) := by
  induction n with
  | zero => simp [marksI] at hj
  | succ n ih =>
    simp only [marksI]
    rcases Nat.lt_or_ge j (marksI k n).length with h | h
    · rw [List.getElem_append_left h]
      exact ih h
    · have hl := marksI_len k n
      have hl2 := marksI_len k (n + 1)
      obtain rfl : j = n := by omega
      rw [List.getElem_append_right h]
      simp

/-- Block g holds the n numbers m. -/
def RowI (w : World) (base g n c : Nat) (m : List Int) : Prop := w.ownsRow base 3 1 (.slice (some ⟨g, 0, none⟩) n c) n (m.map (Value.int .i64))
theorem RowI.len {w : World} {base g n c : Nat} {m : List Int} (h : RowI w base g n c m) : m.length = n := by have := h.1; simpa using this
theorem RowI.store {w : World} {base g n c : Nat} {m : List Int} (h : RowI w base g n c m) (j : Nat) (t : Int) : RowI (w.setCell ⟨g, j, none⟩ (.int .i64 t)) base g n c (m.set j t) := by
  have h2 := (World.ownsRow.stored h j (.int .i64 t)).1
  unfold RowI
  rw [List.map_set]
  exact h2
theorem RowI.cell {w : World} {base g n c : Nat} {m : List Int} (h : RowI w base g n c m) (j : Nat) (hj : j < n) : w.cell? ⟨g, j, none⟩ = some (.int .i64 (m[j]'(by rw [h.len]; exact hj))) := by
  rw [World.ownsRow.cellAt h j (by omega)]
  have := h.len
  simp [show j < m.length by omega]
theorem RowI.frozen {w : World} {base g n c : Nat} {m : List Int} (h : RowI w base g n c m) (j : Nat) : w.frozen? ⟨g, j, none⟩ = false := World.ownsRow.frozenAt h j

set_option maxHeartbeats 2000000 in
theorem markI_any (w : World) (base : Nat) (v : Value) (l : List Int) (hl : l.length ≤ 2000000) (hown : OwnI w base v l) (hbase : base ≤ w.heap.size) :
    Calls Try.prog 106 #[v, .int .i64 1] w fun e w' => e = .returned (.int .i64 ((1 + l.length : Nat) : Int)) ∧ OwnI w' base v (marksI 1 l.length) ∧ Below base w w' ∧ w.heap.size ≤ w'.heap.size := by
  rcases Nat.eq_zero_or_pos l.length with h0 | h0
  · obtain ⟨A1, c1, rfl⟩ := hown.form
    have hnil : l = [] := List.eq_nil_of_length_eq_zero h0
    have H0 := Lib.hid (show OwnI w base (.slice A1 0 c1) (marksI 1 0) by subst hnil; exact hown)
    rw [h0]
    go_enter Try.func106, Try.ntmps106
    go_wp2
    refine wp_loop_rounds 1 ?_
    rw [rounds_succ]
    go_wp2
    go_ret
    exact ⟨rfl, H0.out, Below.refl _ _, Nat.le_refl _⟩
  · obtain ⟨g, c, rfl, hbg, hglt, _, _⟩ := hown.rows h0
    go_enter Try.func106, Try.ntmps106
    go_wp2
    go_loopw [1, 5] (fun q i wr => ∃ (k : Nat) (m : List Int), k ≤ l.length ∧ q = .int .i64 ((1 + k : Nat) : Int) ∧ i = .int .i64 (k : Int) ∧ m.take k = marksI 1 k ∧ RowI wr base g l.length c m ∧ Below base w wr ∧ w.heap.size ≤ wr.heap.size) (fun _ i _ => l.length - (intOf i).toNat)
    case atStart => exact ⟨0, l, by omega, rfl, rfl, rfl, hown, Below.refl _ _, Nat.le_refl _⟩
    case round =>
      obtain ⟨k, m, hk, rfl, rfl, htk, how, hbel, hsz⟩ := hrel
      have Htk := Lib.hid htk
      clear htk
      by_cases hlt : k < l.length
      · have hd : decide (k < l.length) = true := by simp; omega
        have hst := how.store k ((1 + k : Nat) : Int)
        rw [show ((1 + k : Nat) : Int) = 1 + (k : Int) by omega] at hst
        have hml := how.len
        have hc := how.cell k hlt
        have hf := how.frozen k
        have HS := Lib.hid hst
        have Hml := Lib.hid hml
        clear hst hml
        go_wp2
        refine ⟨⟨k + 1, m.set k (1 + (k : Int)), by omega, by go_num, by go_num, ?_, HS.out, hbel.setCell hbg _, by simp [World.setCell]; omega⟩, by simp [intOf]; omega⟩
        have hkm : k < m.length := by rw [Hml.out]; exact hlt
        rw [List.take_succ_eq_append_getElem (by simpa using hkm), List.getElem_set_self, List.take_set_of_le (Nat.le_refl _), Htk.out]
        simp only [marksI]
        rw [show ((1 + k : Nat) : Int) = 1 + (k : Int) by omega]
      · have hd : decide (k < l.length) = false := by simp; omega
        have hfin := Lib.hid (show m = marksI 1 l.length by
          have h := Htk.out
          have hml := how.len
          obtain rfl : k = l.length := by omega
          rw [List.take_of_length_le (by omega)] at h
          exact h)
        have hkl := Lib.hid (show k = l.length by omega)
        clear hlt
        go_wp2
        go_ret
        refine ⟨by rw [hkl.out]; rfl, ?_, hbel, hsz⟩
        unfold OwnI
        rw [marksI_len, ← hfin.out]
        exact how

set_option maxHeartbeats 4000000 in
theorem heldI_any (w : World) (base n : Nat) (v : Value) (hn : n ≤ 2000000) (hown : OwnI w base v (marksI 1 n)) :
    Calls Try.prog 108 #[v, .int .i64 1] w fun e w' => e = .returned (.int .i64 ((1 + n : Nat) : Int)) ∧ ∃ d, w' = w.drewN d := by
  have hln := marksI_len 1 n
  rcases Nat.eq_zero_or_pos n with h0 | h0
  · obtain ⟨A1, c1, rfl⟩ := hown.form
    subst h0
    rw [hln]
    clear hown hln
    go_enter Try.func108, Try.ntmps108
    go_wp2
    refine wp_loop_rounds 1 ?_
    rw [rounds_succ]
    go_wp2
    go_ret
    exact ⟨rfl, 0, rfl⟩
  · obtain ⟨g, c, rfl, hbg, hglt, hcell, _⟩ := hown.rows (by omega)
    have Hc := Lib.hid (show ∀ j, j < n → w.cell? ⟨g, j, none⟩ = some (.int .i64 (1 + (j : Int))) from fun j hj => by rw [hcell j (by omega), marksI_at, show ((1 + j : Nat) : Int) = 1 + (j : Int) by omega])
    rw [hln]
    clear hcell hown hln
    go_enter Try.func108, Try.ntmps108
    go_wp2
    go_loopw [1, 5] (fun q i wr => ∃ k : Nat, k ≤ n ∧ q = .int .i64 (1 + (k : Int)) ∧ i = .int .i64 (k : Int) ∧ ∃ d, wr = w.drewN d) (fun _ i _ => n - (intOf i).toNat)
    case atStart => exact ⟨0, by omega, rfl, rfl, 0, rfl⟩
    case round =>
      obtain ⟨k, hk, rfl, rfl, d, rfl⟩ := hrel
      by_cases hlt : k < n
      · have hd : decide (k < n) = true := by simp; omega
        have hc := Hc.out k hlt
        go_wp2
        refine ⟨⟨k + 1, by omega, by go_num, by go_num, _, rfl⟩, by simp [intOf]; omega⟩
      · have hd : decide (k < n) = false := by simp; omega
        obtain rfl : k = n := by omega
        clear hlt
        go_wp2
        go_ret
        exact ⟨by go_num, d, rfl⟩
end Go.Proofs.Ytckofkdeedbbgaa
