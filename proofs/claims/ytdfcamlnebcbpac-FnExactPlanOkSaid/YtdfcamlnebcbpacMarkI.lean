/- What this text proves: the contracts of the laws' own functions over lists of numbers: two lists that hold the same numbers are found equal; marks that were written are found again. -/
import Derived.Test.YtdfcamlnebcbpacBufI
import Derived.Laws.Concat
import Derived.BigQuiet
import Derived.Deep.QuietTactic
import Derived.Deep.RegionLaw
import Derived.BigRegion
import Derived.Outline
namespace Go.Proofs.Ytdfcamlnebcbpac
open Go.ChangeShapes Go.WideShapes Go.ChangeAt Go.RowKit
set_option linter.unusedVariables false

theorem OwnI.rows {w : World} {base : Nat} {v : Value} {l : List Int} (h : OwnI w base v l) (hn : 0 < l.length) :
    ∃ g cap, v = .slice (some ⟨g, 0, none⟩) l.length cap ∧ base ≤ g ∧ g < w.heap.size ∧ (∀ j (hj : j < l.length), w.cell? ⟨g, j, none⟩ = some (.int .i64 l[j])) ∧ (∀ j, w.frozen? ⟨g, j, none⟩ = false) := by
  rcases h.2 with ⟨_, h0⟩ | ⟨g, cap, cur, hv, hb, hh, h1, h2, h3, h4⟩
  · omega
  · have hg : g < w.heap.size := by
      rcases Nat.lt_or_ge g w.heap.size with h5 | h5
      · exact h5
      · rw [Array.getElem?_eq_none h5] at hh; cases hh
    subst hv
    refine ⟨g, cap, rfl, hb, hg, fun j hj => ?_, fun j => ?_⟩
    · have hc := World.ownsRow.cellAt h j (by omega)
      rw [hc]
      simp [hj]
    · exact World.ownsRow.frozenAt h j

set_option maxHeartbeats 1000000 in
theorem eqI_any (w : World) (b1 b2 : Nat) (v1 v2 : Value) (l : List Int) (hl : l.length ≤ 2000000) (h1 : OwnI w b1 v1 l) (h2 : OwnI w b2 v2 l) :
    Calls Try.prog 19 #[v1, v2] w fun e w' => e = .returned (.bool true) ∧ ∃ d, w' = w.drewN d := by
  rcases Nat.eq_zero_or_pos l.length with h0 | h0
  · obtain ⟨A1, c1, rfl⟩ := h1.form
    obtain ⟨A2, c2, rfl⟩ := h2.form
    rw [h0]
    go_enter Try.func19, Try.ntmps19
    go_wp2
    refine wp_loop_rounds 1 ?_
    rw [rounds_succ]
    go_wp2
    go_ret
    exact ⟨rfl, 0, rfl⟩
  · obtain ⟨g1, c1, rfl, _, _, hc1, _⟩ := h1.rows h0
    obtain ⟨g2, c2, rfl, _, _, hc2, _⟩ := h2.rows h0
    have H1 := Lib.hid hc1
    have H2 := Lib.hid hc2
    clear hc1 hc2 h1 h2
    go_enter Try.func19, Try.ntmps19
    go_wp2
    go_loopw [5] (fun i wr => ∃ k : Nat, k ≤ l.length ∧ i = .int .i64 (k : Int) ∧ ∃ d, wr = w.drewN d) (fun i _ => l.length - (intOf i).toNat)
    case atStart => exact ⟨0, by omega, rfl, 0, rfl⟩
    case round =>
      obtain ⟨k, hk, rfl, d, rfl⟩ := hrel
      by_cases hlt : k < l.length
      · have hd : decide (k < l.length) = true := by simp; omega
        have e1 := H1.out k hlt
        have e2 := H2.out k hlt
        generalize l[k] = t at e1 e2
        go_wp2
        go_quiet (fail)
        go_wp2
        refine ⟨⟨k + 1, by omega, by go_num, _, rfl⟩, by simp [intOf]; omega⟩
      · have hd : decide (k < l.length) = false := by simp; omega
        clear hlt
        go_wp2
        go_ret
        exact ⟨rfl, d, rfl⟩


/-- The marks from k on. -/
def marksI (k : Nat) : Nat → List Int
  | 0 => []
  | n + 1 => marksI k n ++ [((k + n : Nat) : Int)]
theorem marksI_len (k n : Nat) : (marksI k n).length = n := by
  induction n with
  | zero => rfl
  | succ n ih => simp [marksI, ih]
theorem marksI_at (k n j : Nat) (hj : j < (marksI k n).length) : (marksI k n)[j] = ((k + j : Nat) : Int) := by
  induction n with
  | zero => simp [marksI] at hj
  | succ n ih =>
    simp only [marksI]
    rcases Nat.lt_or_ge j (marksI k n).length with h | h
    · rw [List.getElem_append_left h]
      exact ih h
    · have hl := marksI_len k n
      have hl2 := marksI_len k (n + 1)
      obtain rfl : j = n := by omega
      rw [List.getElem_append_right h]
      simp

/-- Block g holds the n numbers m. -/
def RowI (w : World) (base g n c : Nat) (m : List Int) : Prop := w.ownsRow base 3 1 (.slice (some ⟨g, 0, none⟩) n c) n (m.map (Value.int .i64))
theorem RowI.len {w : World} {base g n c : Nat} {m : List Int} (h : RowI w base g n c m) : m.length = n := by have := h.1; simpa using this
theorem RowI.store {w : World} {base g n c : Nat} {m : List Int} (h : RowI w base g n c m) (j : Nat) (t : Int) : RowI (w.setCell ⟨g, j, none⟩ (.int .i64 t)) base g n c (m.set j t) := by
  have h2 := (World.ownsRow.stored h j (.int .i64 t)).1
  unfold RowI
  rw [List.map_set]
  exact h2
theorem RowI.cell {w : World} {base g n c : Nat} {m : List Int} (h : RowI w base g n c m) (j : Nat) (hj : j < n) : w.cell? ⟨g, j, none⟩ = some (.int .i64 (m[j]'(by rw [h.len]; exact hj))) := by
  rw [World.ownsRow.cellAt h j (by omega)]
  have := h.len
  simp [show j < m.length by omega]
theorem RowI.frozen {w : World} {base g n c : Nat} {m : List Int} (h : RowI w base g n c m) (j : Nat) : w.frozen? ⟨g, j, none⟩ = false := World.ownsRow.frozenAt h j

set_option maxHeartbeats 2000000 in
theorem markI_any (w : World) (base : Nat) (v : Value) (l : List Int) (hl : l.length ≤ 2000000) (hown : OwnI w base v l) (hbase : base ≤ w.heap.size) :
    Calls Try.prog 22 #[v, .int .i64 1] w fun e w' => e = .returned (.int .i64 ((1 + l.length : Nat) : Int)) ∧ OwnI w' base v (marksI 1 l.length) ∧ Below base w w' ∧ w.heap.size ≤ w'.heap.size := by
  rcases Nat.eq_zero_or_pos l.length with h0 | h0
  · obtain ⟨A1, c1, rfl⟩ := hown.form
    have hnil : l = [] := List.eq_nil_of_length_eq_zero h0
    have H0 := Lib.hid (show OwnI w base (.slice A1 0 c1) (marksI 1 0) by subst hnil; exact hown)
    rw [h0]
    go_enter Try.func22, Try.ntmps22
    go_wp2
    refine wp_loop_rounds 1 ?_
    rw [rounds_succ]
    go_wp2
    go_ret
    exact ⟨rfl, H0.out, Below.refl _ _, Nat.le_refl _⟩
  · obtain ⟨g, c, rfl, hbg, hglt, _, _⟩ := hown.rows h0
    go_enter Try.func22, Try.ntmps22
    go_wp2
    go_loopw [1, 5] (fun q i wr => ∃ (k : Nat) (m : List Int), k ≤ l.length ∧ q = .int .i64 ((1 + k : Nat) : Int) ∧ i = .int .i64 (k : Int) ∧ m.take k = marksI 1 k ∧ RowI wr base g l.length c m ∧ Below base w wr ∧ w.heap.size ≤ wr.heap.size) (fun _ i _ => l.length - (intOf i).toNat)
    case atStart => exact ⟨0, l, by omega, rfl, rfl, rfl, hown, Below.refl _ _, Nat.le_refl _⟩
    case round =>
      obtain ⟨k, m, hk, rfl, rfl, htk, how, hbel, hsz⟩ := hrel
      have Htk := Lib.hid htk
      clear htk
      by_cases hlt : k < l.length
      · have hd : decide (k < l.length) = true := by simp; omega
        have hst := how.store k ((1 + k : Nat) : Int)
        rw [show ((1 + k : Nat) : Int) = 1 + (k : Int) by omega] at hst
        have hml := how.len
        have hc := how.cell k hlt
        have hf := how.frozen k
        have HS := Lib.hid hst
        have Hml := Lib.hid hml
        clear hst hml
        go_wp2
        refine ⟨⟨k + 1, m.set k (1 + (k : Int)), by omega, by go_num, by go_num, ?_, HS.out, hbel.setCell hbg _, by simp [World.setCell]; omega⟩, by simp [intOf]; omega⟩
        have hkm : k < m.length := by rw [Hml.out]; exact hlt
        rw [List.take_succ_eq_append_getElem (by simpa using hkm), List.getElem_set_self, List.take_set_of_le (Nat.le_refl _), Htk.out]
        simp only [marksI]
        rw [show ((1 + k : Nat) : Int) = 1 + (k : Int) by omega]
      · have hd : decide (k < l.length) = false := by simp; omega
        have hfin := Lib.hid (show m = marksI 1 l.length by
          have h := Htk.out
          have hml := how.len
          obtain rfl : k = l.length := by omega
          rw [List.take_of_length_le (by omega)] at h
          exact h)
        have hkl := Lib.hid (show k = l.length by omega)
        clear hlt
        go_wp2
        go_ret
        refine ⟨by rw [hkl.out]; rfl, ?_, hbel, hsz⟩
        unfold OwnI
        rw [marksI_len, ← hfin.out]
        exact how

set_option maxHeartbeats 4000000 in
theorem heldI_any (w : World) (base n : Nat) (v : Value) (hn : n ≤ 2000000) (hown : OwnI w base v (marksI 1 n)) :
    Calls Try.prog 23 #[v, .int .i64 1] w fun e w' => e = .returned (.int .i64 ((1 + n : Nat) : Int)) ∧ ∃ d, w' = w.drewN d := by
  have hln := marksI_len 1 n
  rcases Nat.eq_zero_or_pos n with h0 | h0
  · obtain ⟨A1, c1, rfl⟩ := hown.form
    subst h0
    rw [hln]
    clear hown hln
    go_enter Try.func23, Try.ntmps23
    go_wp2
    refine wp_loop_rounds 1 ?_
    rw [rounds_succ]
    go_wp2
    go_ret
    exact ⟨rfl, 0, rfl⟩
  · obtain ⟨g, c, rfl, hbg, hglt, hcell, _⟩ := hown.rows (by omega)
    have Hc := Lib.hid (show ∀ j, j < n → w.cell? ⟨g, j, none⟩ = some (.int .i64 (1 + (j : Int))) from fun j hj => by rw [hcell j (by omega), marksI_at, show ((1 + j : Nat) : Int) = 1 + (j : Int) by omega])
    rw [hln]
    clear hcell hown hln
    go_enter Try.func23, Try.ntmps23
    go_wp2
    go_loopw [1, 5] (fun q i wr => ∃ k : Nat, k ≤ n ∧ q = .int .i64 (1 + (k : Int)) ∧ i = .int .i64 (k : Int) ∧ ∃ d, wr = w.drewN d) (fun _ i _ => n - (intOf i).toNat)
    case atStart => exact ⟨0, by omega, rfl, rfl, 0, rfl⟩
    case round =>
      obtain ⟨k, hk, rfl, rfl, d, rfl⟩ := hrel
      by_cases hlt : k < n
      · have hd : decide (k < n) = true := by simp; omega
        have hc := Hc.out k hlt
        go_wp2
        refine ⟨⟨k + 1, by omega, by go_num, by go_num, _, rfl⟩, by simp [intOf]; omega⟩
      · have hd : decide (k < n) = false := by simp; omega
        obtain rfl : k = n := by omega
        clear hlt
        go_wp2
        go_ret
        exact ⟨by go_num, d, rfl⟩
end Go.Proofs.Ytdfcamlnebcbpac
