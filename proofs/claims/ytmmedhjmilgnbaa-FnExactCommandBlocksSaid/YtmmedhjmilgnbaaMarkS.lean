/- What this text proves: the contracts of the laws' own functions over lists of texts: two lists that hold the same texts are found equal; marks that were written are found again. -/
import Derived.Test.YtmmedhjmilgnbaaBufS
import Derived.Test.YtmmedhjmilgnbaaBuf
import Derived.Test.YtmmedhjmilgnbaaMarkT
import Derived.Laws.Concat
import Derived.BigQuiet
import Derived.Deep.QuietTactic
import Derived.Deep.RegionLaw
import Derived.BigRegion
import Derived.Outline
namespace Go.Proofs.Ytmmedhjmilgnbaa
open Go.ChangeShapes Go.WideShapes Go.ChangeAt Go.RowKit
set_option linter.unusedVariables false

theorem OwnS.rows {w : World} {base : Nat} {v : Value} {l : List ByteArray} (h : OwnS w base v l) (hn : 0 < l.length) :
    ∃ g cap, v = .slice (some ⟨g, 0, none⟩) l.length cap ∧ base ≤ g ∧ g < w.heap.size ∧ (∀ j (hj : j < l.length), w.cell? ⟨g, j, none⟩ = some (.string l[j])) ∧ (∀ j, w.frozen? ⟨g, j, none⟩ = false) := by
  rcases h.2 with ⟨_, h0⟩ | ⟨g, cap, cur, hv, hb, hh, h1, h2, h3, h4⟩
  · omega
  · have hg : g < w.heap.size := by
      rcases Nat.lt_or_ge g w.heap.size with h5 | h5
      · exact h5
      · rw [Array.getElem?_eq_none h5] at hh; cases hh
    subst hv
    refine ⟨g, cap, rfl, hb, hg, fun j hj => ?_, fun j => ?_⟩
    · have hc := World.ownsRow.cellAt h j (by omega)
      rw [hc]
      simp [hj]
    · exact World.ownsRow.frozenAt h j

set_option maxHeartbeats 1000000 in
theorem eq_any (w : World) (b1 b2 : Nat) (v1 v2 : Value) (l : List ByteArray) (hl : l.length ≤ 1000000) (h1 : OwnS w b1 v1 l) (h2 : OwnS w b2 v2 l) :
    Calls Try.prog 35 #[v1, v2] w fun e w' => e = .returned (.bool true) ∧ ∃ d, w' = w.drewN d := by
  rcases Nat.eq_zero_or_pos l.length with h0 | h0
  · obtain ⟨A1, c1, rfl⟩ := h1.form
    obtain ⟨A2, c2, rfl⟩ := h2.form
    rw [h0]
    go_enter Try.func35, Try.ntmps35
    go_wp2
    refine wp_loop_rounds 1 ?_
    rw [rounds_succ]
    go_wp2
    go_ret
    exact ⟨rfl, 0, rfl⟩
  · obtain ⟨g1, c1, rfl, _, _, hc1, _⟩ := h1.rows h0
    obtain ⟨g2, c2, rfl, _, _, hc2, _⟩ := h2.rows h0
    have H1 := Lib.hid hc1
    have H2 := Lib.hid hc2
    clear hc1 hc2 h1 h2
    go_enter Try.func35, Try.ntmps35
    go_wp2
    go_loopw [5] (fun i wr => ∃ k : Nat, k ≤ l.length ∧ i = .int .i64 (k : Int) ∧ ∃ d, wr = w.drewN d) (fun i _ => l.length - (intOf i).toNat)
    case atStart => exact ⟨0, by omega, rfl, 0, rfl⟩
    case round =>
      obtain ⟨k, hk, rfl, d, rfl⟩ := hrel
      by_cases hlt : k < l.length
      · have hd : decide (k < l.length) = true := by simp; omega
        have e1 := H1.out k hlt
        have e2 := H2.out k hlt
        generalize l[k] = t at e1 e2
        go_wp2
        go_quiet (fail)
        go_wp2
        refine ⟨⟨k + 1, by omega, by go_num, _, rfl⟩, by simp [intOf]; omega⟩
      · have hd : decide (k < l.length) = false := by simp; omega
        clear hlt
        go_wp2
        go_ret
        exact ⟨rfl, d, rfl⟩

/-- The marks from k on. -/
def marksL (k : Nat) : Nat → List ByteArray
  | 0 => []
  | n + 1 => marksL k n ++ [markV (k + n)]
theorem marksL_len (k n : Nat) : (marksL k n).length = n := by
  induction n with
  | zero => rfl
  | succ n ih => simp [marksL, ih]
theorem marksL_at (k n j : Nat) (hj : j < (marksL k n).length) : (marksL k n)[j] = markV (k + j) := by
  induction n with
  | zero => simp [marksL] at hj
  | succ n ih =>
    simp only [marksL]
    rcases Nat.lt_or_ge j (marksL k n).length with h | h
    · rw [List.getElem_append_left h]
      exact ih h
    · have hl := marksL_len k n
      have hl2 := marksL_len k (n + 1)
      obtain rfl : j = n := by omega
      rw [List.getElem_append_right h]
      simp

/-- Block g holds the n texts m. -/
def RowS (w : World) (base g n c : Nat) (m : List ByteArray) : Prop := w.ownsRow base 9 1 (.slice (some ⟨g, 0, none⟩) n c) n (m.map Value.string)
theorem RowS.len {w : World} {base g n c : Nat} {m : List ByteArray} (h : RowS w base g n c m) : m.length = n := by have := h.1; simpa using this
theorem RowS.more {w w' : World} {base g n c : Nat} {m : List ByteArray} (h : RowS w base g n c m) (hb : Below w.heap.size w w') : RowS w' base g n c m := by
  refine World.ownsRow.kept (row := none) h ⟨hb.os, hb.tape, hb.output, hb.size, fun k hk _ => hb.block k hk⟩ (.inr ?_)
  simp [Value.ownBlock]
theorem RowS.store {w : World} {base g n c : Nat} {m : List ByteArray} (h : RowS w base g n c m) (j : Nat) (t : ByteArray) : RowS (w.setCell ⟨g, j, none⟩ (.string t)) base g n c (m.set j t) := by
  have h2 := (World.ownsRow.stored h j (.string t)).1
  unfold RowS
  rw [List.map_set]
  exact h2
theorem RowS.cell {w : World} {base g n c : Nat} {m : List ByteArray} (h : RowS w base g n c m) (j : Nat) (hj : j < n) : w.cell? ⟨g, j, none⟩ = some (.string (m[j]'(by rw [h.len]; exact hj))) := by
  rw [World.ownsRow.cellAt h j (by omega)]
  have := h.len
  simp [show j < m.length by omega]
theorem RowS.frozen {w : World} {base g n c : Nat} {m : List ByteArray} (h : RowS w base g n c m) (j : Nat) : w.frozen? ⟨g, j, none⟩ = false := World.ownsRow.frozenAt h j

set_option maxHeartbeats 2000000 in
theorem mark_any (w : World) (base : Nat) (v : Value) (l : List ByteArray) (hl : l.length ≤ 1000000) (hown : OwnS w base v l) (hbase : base ≤ w.heap.size) :
    Calls Try.prog 36 #[v, .int .i64 1] w fun e w' => e = .returned (.int .i64 ((1 + l.length : Nat) : Int)) ∧ OwnS w' base v (marksL 1 l.length) ∧ Below base w w' ∧ w.heap.size ≤ w'.heap.size := by
  rcases Nat.eq_zero_or_pos l.length with h0 | h0
  · obtain ⟨A1, c1, rfl⟩ := hown.form
    have hnil : l = [] := List.eq_nil_of_length_eq_zero h0
    have H0 := Lib.hid (show OwnS w base (.slice A1 0 c1) (marksL 1 0) by subst hnil; exact hown)
    rw [h0]
    go_enter Try.func36, Try.ntmps36
    go_wp2
    refine wp_loop_rounds 1 ?_
    rw [rounds_succ]
    go_wp2
    go_ret
    exact ⟨rfl, H0.out, Below.refl _ _, Nat.le_refl _⟩
  · obtain ⟨g, c, rfl, hbg, hglt, _, _⟩ := hown.rows h0
    go_enter Try.func36, Try.ntmps36
    go_wp2
    go_loopw [1, 5] (fun q i wr => ∃ (k : Nat) (m : List ByteArray), k ≤ l.length ∧ q = .int .i64 ((1 + k : Nat) : Int) ∧ i = .int .i64 (k : Int) ∧ m.take k = marksL 1 k ∧ RowS wr base g l.length c m ∧ Below base w wr ∧ w.heap.size ≤ wr.heap.size) (fun _ i _ => l.length - (intOf i).toNat)
    case atStart => exact ⟨0, l, by omega, rfl, rfl, rfl, hown, Below.refl _ _, Nat.le_refl _⟩
    case round =>
      obtain ⟨k, m, hk, rfl, rfl, htk, how, hbel, hsz⟩ := hrel
      have Htk := Lib.hid htk
      clear htk
      by_cases hlt : k < l.length
      · have hd : decide (k < l.length) = true := by simp; omega
        have hmt := Lib.hid (fun w' : World => mark_text (1 + k) (by omega) (by omega) w')
        go_wp2_with fail
        refine (hmt.out _).mono ?_
        rintro e w2 ⟨rfl, hb2⟩
        have how2 := how.more hb2
        have hst := how2.store k (markV (1 + k))
        have hml := how2.len
        have hc := how2.cell k hlt
        have hf := how2.frozen k
        have HS := Lib.hid hst
        have HB := Lib.hid hb2
        have Hml := Lib.hid hml
        clear hst hb2 hml
        go_wp2
        refine ⟨⟨k + 1, m.set k (markV (1 + k)), by omega, by go_num, by go_num, ?_, HS.out, (hbel.trans (HB.out.mono (by omega))).setCell hbg _, by have := HB.out.size; simp [World.setCell]; omega⟩, by simp [intOf]; omega⟩
        have hkm : k < m.length := by rw [Hml.out]; exact hlt
        rw [List.take_succ_eq_append_getElem (by simpa using hkm), List.getElem_set_self, List.take_set_of_le (Nat.le_refl _), Htk.out]
        rfl
      · have hd : decide (k < l.length) = false := by simp; omega
        have hfin := Lib.hid (show m = marksL 1 l.length by
          have h := Htk.out
          have hml := how.len
          obtain rfl : k = l.length := by omega
          rw [List.take_of_length_le (by omega)] at h
          exact h)
        have hkl := Lib.hid (show k = l.length by omega)
        clear hlt
        go_wp2
        go_ret
        refine ⟨by rw [hkl.out]; rfl, ?_, hbel, hsz⟩
        unfold OwnS
        rw [marksL_len, ← hfin.out]
        exact how

set_option maxHeartbeats 4000000 in
theorem held_any (w : World) (base n : Nat) (v : Value) (hn : n ≤ 1000000) (hown : OwnS w base v (marksL 1 n)) :
    Calls Try.prog 37 #[v, .int .i64 1] w fun e w' => e = .returned (.int .i64 ((1 + n : Nat) : Int)) ∧ Below w.heap.size w w' := by
  have hln := marksL_len 1 n
  rcases Nat.eq_zero_or_pos n with h0 | h0
  · obtain ⟨A1, c1, rfl⟩ := hown.form
    subst h0
    rw [hln]
    clear hown hln
    go_enter Try.func37, Try.ntmps37
    go_wp2
    refine wp_loop_rounds 1 ?_
    rw [rounds_succ]
    go_wp2
    go_ret
    exact ⟨rfl, Below.refl _ _⟩
  · obtain ⟨g, c, rfl, hbg, hglt, hcell, _⟩ := hown.rows (by omega)
    have Hc := Lib.hid (show ∀ j, j < n → w.cell? ⟨g, j, none⟩ = some (.string (markV (1 + j))) from fun j hj => by rw [hcell j (by omega), marksL_at])
    rw [hln]
    clear hcell hown hln
    go_enter Try.func37, Try.ntmps37
    go_wp2
    go_loopw [1, 5] (fun q i wr => ∃ k : Nat, k ≤ n ∧ q = .int .i64 ((1 + k : Nat) : Int) ∧ i = .int .i64 (k : Int) ∧ Below w.heap.size w wr) (fun _ i _ => n - (intOf i).toNat)
    case atStart => exact ⟨0, by omega, rfl, rfl, Below.refl _ _⟩
    case round =>
      obtain ⟨k, hk, rfl, rfl, hbel⟩ := hrel
      by_cases hlt : k < n
      · have hd : decide (k < n) = true := by simp; omega
        have hmt := Lib.hid (fun w' : World => mark_text (1 + k) (by omega) (by omega) w')
        have hc : wr.cell? ⟨g, k, none⟩ = some (.string (markV (1 + k))) := by rw [hbel.cell (p := ⟨g, k, none⟩) hglt]; exact Hc.out k hlt
        have hgr : g < wr.heap.size := Nat.lt_of_lt_of_le hglt hbel.size
        generalize markV (1 + k) = T at *
        go_wp2
        go_region_law ((go_simp; go_at_call 65; refine (hmt.out _).mono ?_; rintro e w2 ⟨rfl, hb2⟩; have hc2 : w2.cell? ⟨g, k, none⟩ = some (.string T) := (hb2.cell (p := ⟨g, k, none⟩) hgr).trans hc))
        all_goals go_wp2
        all_goals
          have hb3 : Below w.heap.size w w2 := hbel.drew.trans (hb2.mono hbel.size)
          first
            | exact ⟨⟨k + 1, by omega, by go_num, by go_num, hb3⟩, by simp [intOf]; omega⟩
            | exact ⟨⟨k + 1, by omega, by go_num, by go_num, hb3.drew⟩, by simp [intOf]; omega⟩
      · have hd : decide (k < n) = false := by simp; omega
        obtain rfl : k = n := by omega
        clear hlt
        go_wp2
        go_ret
        exact ⟨rfl, hbel⟩
end Go.Proofs.Ytmmedhjmilgnbaa
