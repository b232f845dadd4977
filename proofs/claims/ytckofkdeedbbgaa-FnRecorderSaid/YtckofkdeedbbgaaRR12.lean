/- What this text proves: the parts MarkI, Pak, InT, Byte of the proof, each under its own words. -/
import Derived.Test.YtckofkdeedbbgaaRR06
import Derived.Laws.Concat
import Derived.BigQuiet
import Derived.Deep.QuietTactic
import Derived.Deep.RegionLaw
import Derived.BigRegion
import Derived.Outline
import Derived.Test.YtckofkdeedbbgaaRR00
import Derived.Laws.MakeOwn
import Derived.Deep.LoopGhost
import Derived.Test.YtckofkdeedbbgaaRR07
import Derived.Lib.Hide
/- What this text proves: the contracts of the laws' own functions over lists of numbers: two lists that hold the same numbers are found equal; marks that were written are found again. -/
namespace Go.Proofs.Ytckofkdeedbbgaa
open Go.ChangeShapes Go.WideShapes Go.ChangeAt Go.RowKit
set_option linter.unusedVariables false

theorem OwnI.rows {w : World} {base : Nat} {v : Value} {l : List Int} (h : OwnI w base v l) (hn : 0 < l.length) :
    ∃ g cap, v = .slice (some ⟨g, 0, none⟩) l.length cap ∧ base ≤ g ∧ g < w.heap.size ∧ (∀ j (hj : j < l.length), w.cell? ⟨g, j, none⟩ = some (.int .i64 l[j])) ∧ (∀ j, w.frozen? ⟨g, j, none⟩ = false) := by
  rcases h.2 with ⟨_, h0⟩ | ⟨g, cap, cur, hv, hb, hh, h1, h2, h3, h4⟩
  · omega
  · have hg : g < w.heap.size := by
      rcases Nat.lt_or_ge g w.heap.size with h5 | h5
      · exact h5
      · rw [Array.getElem?_eq_none h5] at hh; cases hh
    subst hv
    refine ⟨g, cap, rfl, hb, hg, fun j hj => ?_, fun j => ?_⟩
    · have hc := World.ownsRow.cellAt h j (by omega)
      rw [hc]
      simp [hj]
    · exact World.ownsRow.frozenAt h j

set_option maxHeartbeats 1000000 in
theorem eqI_any (w : World) (b1 b2 : Nat) (v1 v2 : Value) (l : List Int) (hl : l.length ≤ 2000000) (h1 : OwnI w b1 v1 l) (h2 : OwnI w b2 v2 l) :
    Calls Try.prog 104 #[v1, v2] w fun e w' => e = .returned (.bool true) ∧ ∃ d, w' = w.drewN d := by
  rcases Nat.eq_zero_or_pos l.length with h0 | h0
  · obtain ⟨A1, c1, rfl⟩ := h1.form
    obtain ⟨A2, c2, rfl⟩ := h2.form
    rw [h0]
    go_enter Try.func104, Try.ntmps104
    go_wp2
    refine wp_loop_rounds 1 ?_
    rw [rounds_succ]
    go_wp2
    go_ret
    exact ⟨rfl, 0, rfl⟩
  · obtain ⟨g1, c1, rfl, _, _, hc1, _⟩ := h1.rows h0
    obtain ⟨g2, c2, rfl, _, _, hc2, _⟩ := h2.rows h0
    have H1 := Lib.hid hc1
    have H2 := Lib.hid hc2
    clear hc1 hc2 h1 h2
    go_enter Try.func104, Try.ntmps104
    go_wp2
    go_loopw [5] (fun i wr => ∃ k : Nat, k ≤ l.length ∧ i = .int .i64 (k : Int) ∧ ∃ d, wr = w.drewN d) (fun i _ => l.length - (intOf i).toNat)
    case atStart => exact ⟨0, by omega, rfl, 0, rfl⟩
    case round =>
      obtain ⟨k, hk, rfl, d, rfl⟩ := hrel
      by_cases hlt : k < l.length
      · have hd : decide (k < l.length) = true := by simp; omega
        have e1 := H1.out k hlt
        have e2 := H2.out k hlt
        generalize l[k] = t at e1 e2
        go_wp2
        go_quiet (fail)
        go_wp2
        refine ⟨⟨k + 1, by omega, by go_num, _, rfl⟩, by simp [intOf]; omega⟩
      · have hd : decide (k < l.length) = false := by simp; omega
        clear hlt
        go_wp2
        go_ret
        exact ⟨rfl, d, rfl⟩


/-- The marks from k on. -/
def marksI (k : Nat) : Nat → List Int
  | 0 => []
  | n + 1 => marksI k n ++ [((k + n : Nat) : Int)]
theorem marksI_len (k n : Nat) : (marksI k n).length = n := by
  induction n with
  | zero => rfl
  | succ n ih => simp [marksI, ih]
theorem marksI_at (k n j : Nat) (hj : j < (marksI k n).length) : (marksI k n)[j] = ((k + j : Nat) : Int) := by
  induction n with
  | zero => simp [marksI] at hj
  | succ n ih =>
    simp only [marksI]
    rcases Nat.lt_or_ge j (marksI k n).length with h | h
    · rw [List.getElem_append_left h]
      exact ih h
    · have hl := marksI_len k n
      have hl2 := marksI_len k (n + 1)
      obtain rfl : j = n := by omega
      rw [List.getElem_append_right h]
      simp

/-- Block g holds the n numbers m. -/
def RowI (w : World) (base g n c : Nat) (m : List Int) : Prop := w.ownsRow base 3 1 (.slice (some ⟨g, 0, none⟩) n c) n (m.map (Value.int .i64))
theorem RowI.len {w : World} {base g n c : Nat} {m : List Int} (h : RowI w base g n c m) : m.length = n := by have := h.1; simpa using this
theorem RowI.store {w : World} {base g n c : Nat} {m : List Int} (h : RowI w base g n c m) (j : Nat) (t : Int) : RowI (w.setCell ⟨g, j, none⟩ (.int .i64 t)) base g n c (m.set j t) := by
  have h2 := (World.ownsRow.stored h j (.int .i64 t)).1
  unfold RowI
  rw [List.map_set]
  exact h2
theorem RowI.cell {w : World} {base g n c : Nat} {m : List Int} (h : RowI w base g n c m) (j : Nat) (hj : j < n) : w.cell? ⟨g, j, none⟩ = some (.int .i64 (m[j]'(by rw [h.len]; exact hj))) := by
  rw [World.ownsRow.cellAt h j (by omega)]
  have := h.len
  simp [show j < m.length by omega]
theorem RowI.frozen {w : World} {base g n c : Nat} {m : List Int} (h : RowI w base g n c m) (j : Nat) : w.frozen? ⟨g, j, none⟩ = false := World.ownsRow.frozenAt h j

set_option maxHeartbeats 2000000 in
theorem markI_any (w : World) (base : Nat) (v : Value) (l : List Int) (hl : l.length ≤ 2000000) (hown : OwnI w base v l) (hbase : base ≤ w.heap.size) :
    Calls Try.prog 106 #[v, .int .i64 1] w fun e w' => e = .returned (.int .i64 ((1 + l.length : Nat) : Int)) ∧ OwnI w' base v (marksI 1 l.length) ∧ Below base w w' ∧ w.heap.size ≤ w'.heap.size := by
  rcases Nat.eq_zero_or_pos l.length with h0 | h0
  · obtain ⟨A1, c1, rfl⟩ := hown.form
    have hnil : l = [] := List.eq_nil_of_length_eq_zero h0
    have H0 := Lib.hid (show OwnI w base (.slice A1 0 c1) (marksI 1 0) by subst hnil; exact hown)
    rw [h0]
    go_enter Try.func106, Try.ntmps106
    go_wp2
    refine wp_loop_rounds 1 ?_
    rw [rounds_succ]
    go_wp2
    go_ret
    exact ⟨rfl, H0.out, Below.refl _ _, Nat.le_refl _⟩
  · obtain ⟨g, c, rfl, hbg, hglt, _, _⟩ := hown.rows h0
    go_enter Try.func106, Try.ntmps106
    go_wp2
    go_loopw [1, 5] (fun q i wr => ∃ (k : Nat) (m : List Int), k ≤ l.length ∧ q = .int .i64 ((1 + k : Nat) : Int) ∧ i = .int .i64 (k : Int) ∧ m.take k = marksI 1 k ∧ RowI wr base g l.length c m ∧ Below base w wr ∧ w.heap.size ≤ wr.heap.size) (fun _ i _ => l.length - (intOf i).toNat)
    case atStart => exact ⟨0, l, by omega, rfl, rfl, rfl, hown, Below.refl _ _, Nat.le_refl _⟩
    case round =>
      obtain ⟨k, m, hk, rfl, rfl, htk, how, hbel, hsz⟩ := hrel
      have Htk := Lib.hid htk
      clear htk
      by_cases hlt : k < l.length
      · have hd : decide (k < l.length) = true := by simp; omega
        have hst := how.store k ((1 + k : Nat) : Int)
        rw [show ((1 + k : Nat) : Int) = 1 + (k : Int) by omega] at hst
        have hml := how.len
        have hc := how.cell k hlt
        have hf := how.frozen k
        have HS := Lib.hid hst
        have Hml := Lib.hid hml
        clear hst hml
        go_wp2
        refine ⟨⟨k + 1, m.set k (1 + (k : Int)), by omega, by go_num, by go_num, ?_, HS.out, hbel.setCell hbg _, by simp [World.setCell]; omega⟩, by simp [intOf]; omega⟩
        have hkm : k < m.length := by rw [Hml.out]; exact hlt
        rw [List.take_succ_eq_append_getElem (by simpa using hkm), List.getElem_set_self, List.take_set_of_le (Nat.le_refl _), Htk.out]
        simp only [marksI]
        rw [show ((1 + k : Nat) : Int) = 1 + (k : Int) by omega]
      · have hd : decide (k < l.length) = false := by simp; omega
        have hfin := Lib.hid (show m = marksI 1 l.length by
          have h := Htk.out
          have hml := how.len
          obtain rfl : k = l.length := by omega
          rw [List.take_of_length_le (by omega)] at h
          exact h)
        have hkl := Lib.hid (show k = l.length by omega)
        clear hlt
        go_wp2
        go_ret
        refine ⟨by rw [hkl.out]; rfl, ?_, hbel, hsz⟩
        unfold OwnI
        rw [marksI_len, ← hfin.out]
        exact how

set_option maxHeartbeats 4000000 in
theorem heldI_any (w : World) (base n : Nat) (v : Value) (hn : n ≤ 2000000) (hown : OwnI w base v (marksI 1 n)) :
    Calls Try.prog 108 #[v, .int .i64 1] w fun e w' => e = .returned (.int .i64 ((1 + n : Nat) : Int)) ∧ ∃ d, w' = w.drewN d := by
  have hln := marksI_len 1 n
  rcases Nat.eq_zero_or_pos n with h0 | h0
  · obtain ⟨A1, c1, rfl⟩ := hown.form
    subst h0
    rw [hln]
    clear hown hln
    go_enter Try.func108, Try.ntmps108
    go_wp2
    refine wp_loop_rounds 1 ?_
    rw [rounds_succ]
    go_wp2
    go_ret
    exact ⟨rfl, 0, rfl⟩
  · obtain ⟨g, c, rfl, hbg, hglt, hcell, _⟩ := hown.rows (by omega)
    have Hc := Lib.hid (show ∀ j, j < n → w.cell? ⟨g, j, none⟩ = some (.int .i64 (1 + (j : Int))) from fun j hj => by rw [hcell j (by omega), marksI_at, show ((1 + j : Nat) : Int) = 1 + (j : Int) by omega])
    rw [hln]
    clear hcell hown hln
    go_enter Try.func108, Try.ntmps108
    go_wp2
    go_loopw [1, 5] (fun q i wr => ∃ k : Nat, k ≤ n ∧ q = .int .i64 (1 + (k : Int)) ∧ i = .int .i64 (k : Int) ∧ ∃ d, wr = w.drewN d) (fun _ i _ => n - (intOf i).toNat)
    case atStart => exact ⟨0, by omega, rfl, rfl, 0, rfl⟩
    case round =>
      obtain ⟨k, hk, rfl, rfl, d, rfl⟩ := hrel
      by_cases hlt : k < n
      · have hd : decide (k < n) = true := by simp; omega
        have hc := Hc.out k hlt
        go_wp2
        refine ⟨⟨k + 1, by omega, by go_num, by go_num, _, rfl⟩, by simp [intOf]; omega⟩
      · have hd : decide (k < n) = false := by simp; omega
        obtain rfl : k = n := by omega
        clear hlt
        go_wp2
        go_ret
        exact ⟨by go_num, d, rfl⟩
end Go.Proofs.Ytckofkdeedbbgaa
/- What this text proves: the contracts of the laws' own functions over packers: their sizes, copies, comparisons and marks. -/
namespace Go.Proofs.Ytckofkdeedbbgaa
open Go.ChangeShapes Go.WideShapes Go.ChangeAt Go.RowKit
set_option linter.unusedVariables false

/-- A packer as a value; v: the slice of its Starts. -/
abbrev paV (c n : Int) (r : ByteArray) (v : Value) : Value := .agg #[.int .i64 c, .int .i64 n, .string r, v]
abbrev paL (c n : Int) (r : ByteArray) (v : Value) : List Value := [.int .i64 c, .int .i64 n, .string r, v]

/-- Numbers that are there to be read: the argument of a law. -/
def IntsAt (w : World) (B : Nat) (A : Option Addr) (l : List Int) : Prop :=
  l.length = 0 ∨ ∃ b off, A = some ⟨b, off, none⟩ ∧ b < B ∧ ∀ j (hj : j < l.length), w.cell? ⟨b, off + j, none⟩ = some (.int .i64 l[j])
theorem IntsAt.more {w w' : World} {B : Nat} {A : Option Addr} {l : List Int} (h : IntsAt w B A l) (hb : Below B w w') : IntsAt w' B A l := by
  rcases h with h | ⟨b, off, hA, hlt, hc⟩
  · exact .inl h
  · exact .inr ⟨b, off, hA, hlt, fun j hj => (hb.cell (p := ⟨b, off + j, none⟩) hlt).trans (hc j hj)⟩

theorem make_fullI (W : World) (n : Nat) (hn : n ≤ 1099511627776) :
    (Instr.makeSlice 24 (.int .i64 (n : Int)) (.int .i64 (n : Int))).run Try.prog W = .ok (.slice (some ⟨W.heap.size, 0, none⟩) n n) (W.alloc (.cells (madeCells (Value.int .i64 0).cells n) 3)) := by
  obtain ⟨i, hi, hz0, hz1, hz2⟩ := info_parts info_int
  have h := run_make (P := Try.prog) W 24 3 i (.int .i64 0) Try.underlying24 hi hz0 .i64 .i64 n n (by omega) (by omega) (by rw [hz2]; omega) (by omega)
  rw [hz1] at h
  simpa using h
theorem make_rowI (W : World) (n : Nat) (hn : n ≤ 1099511627776) : RowI (W.alloc (.cells (madeCells (Value.int .i64 0).cells n) 3)) W.heap.size W.heap.size n n (List.replicate n 0) := by
  have h := World.ownsRow_lit (base := W.heap.size) (e := 3) (size := 1) W (madeCells (Value.int .i64 0).cells n) n (Nat.le_refl _) (by unfold maxLen; omega) (by rw [size_madeCells]; omega)
  have e : (madeCells (Value.int .i64 0).cells n).toList = (List.replicate n (0 : Int)).map (Value.int .i64) := by
    rw [show (Value.int .i64 0).cells = #[Value.int .i64 0] from rfl, toList_madeCells_one, List.map_replicate]
  rw [e] at h
  exact h
theorem RowI.own {w : World} {base g n c : Nat} {m : List Int} (h : RowI w base g n c m) : OwnI w base (.slice (some ⟨g, 0, none⟩) n c) m := by
  unfold OwnI
  rw [h.len]
  exact h

set_option maxHeartbeats 2000000 in
theorem toI_any (A : Option Addr) (l : List Int) (c : Nat) (hl : l.length ≤ 1048576) (w : World) (h : IntsAt w w.heap.size A l) :
    Calls Try.prog 102 #[.slice A l.length c] w fun e w' => ∃ v, e = .returned v ∧ OwnI w' w.heap.size v l ∧ Below w.heap.size w w' := by
  have hmk := fun W => make_fullI W l.length (by omega)
  have HR0 := Lib.hid (make_rowI w l.length (by omega))
  have HB0 := Lib.hid ((Below.refl _ w).alloc (Nat.le_refl _) (.cells (madeCells (Value.int .i64 0).cells l.length) 3))
  have HI := Lib.hid (fun W (hb : Below w.heap.size w W) => h.more hb)
  clear h
  go_enter Try.func102, Try.ntmps102
  go_wp2
  clear hmk
  go_loopg [4] l.length (fun gh v4 wx => ∃ (k : Nat) (m : List Int), k ≤ l.length ∧ gh = l.length - k ∧ v4 = .int .i64 (k : Int) ∧ m.take k = l.take k ∧ RowI wx w.heap.size w.heap.size l.length l.length m ∧ Below w.heap.size w wx)
  case atStart => exact ⟨0, List.replicate l.length 0, by omega, rfl, rfl, rfl, HR0.out, HB0.out⟩
  case round =>
    obtain ⟨k, m, hk, rfl, rfl, htk, hrow, hbel⟩ := hrel
    have HTK := Lib.hid htk
    have HB := Lib.hid hbel
    clear htk
    by_cases hlt : k < l.length
    · have hd : decide (k < l.length) = true := by simp; omega
      have hd' : decide ((k : Int) < (l.length : Int)) = true := by simp; omega
      rcases HI.out _ hbel with h0 | ⟨b, off, rfl, hb, hc⟩
      · omega
      · have hck := hc k hlt
        have hml := hrow.len
        have hcell := hrow.cell k hlt
        have hf := hrow.frozen k
        have HST := Lib.hid (hrow.store k l[k])
        have HLK := Lib.hid (show (m.set k l[k]).take (k + 1) = l.take (k + 1) by
          rw [List.take_succ_eq_append_getElem (by rw [List.length_set]; omega), List.getElem_set_self, List.take_set_of_le (Nat.le_refl _), HTK.out, ← List.take_succ_eq_append_getElem hlt])
        obtain ⟨x, hx⟩ : ∃ x, l[k] = x := ⟨_, rfl⟩
        rw [hx] at hck HST HLK
        clear hc hx hbel
        go_wp2
        go_roundg (l.length - (k + 1))
        case measure => omega
        case rel => exact ⟨k + 1, _, by omega, rfl, by go_num, HLK.out, HST.out, HB.out.setCell (p := ⟨w.heap.size, k, none⟩) (Nat.le_refl _) _⟩
    · have hd : decide (k < l.length) = false := by simp; omega
      have hd' : decide ((k : Int) < (l.length : Int)) = false := by simp; omega
      have hml := hrow.len
      have HF := Lib.hid (show m = l by
        have h := HTK.out
        rw [List.take_of_length_le (by omega), List.take_of_length_le (by omega)] at h
        exact h)
      have HO := Lib.hid (show OwnI wr w.heap.size (.slice (some ⟨w.heap.size, 0, none⟩) l.length l.length) l by
        have ho := hrow.own
        rw [HF.out] at ho
        exact ho)
      clear hrow hml
      go_wp2
      go_ret
      exact ⟨_, rfl, HO.out, HB.out⟩
theorem szI_any (A : Option Addr) (n c L : Nat) (hn : n ≤ maxLen) (hL : L ≤ 1048576) (w : World) :
    Calls Try.prog 95 #[.slice A n c, .int .i64 (L : Int)] w fun e w' => e = .returned (.int .i64 (if n ≤ L then (L : Int) - (n : Int) else -1)) ∧ w = w' := by
  have hn' : n ≤ 9223372036854775807 := by unfold maxLen at hn; omega
  by_cases h : n ≤ L
  · rw [if_pos h]
    have hd0 : decide ((L : Int) - (n : Int) < 0) = false := by simp; omega
    go_enter Try.func95, Try.ntmps95
    go_wp2
    go_ret
    exact ⟨rfl, rfl⟩
  · rw [if_neg h]
    have hd0 : decide ((L : Int) - (n : Int) < 0) = true := by simp; omega
    go_enter Try.func95, Try.ntmps95
    go_wp2
    go_ret
    exact ⟨rfl, rfl⟩
end Go.Proofs.Ytckofkdeedbbgaa
/- What this text proves: the contracts of the laws' own functions over a list of numbers that was handed to them: its size, its copy. -/
namespace Go.Proofs.Ytckofkdeedbbgaa
open Go.ChangeShapes Go.WideShapes Go.ChangeAt Go.RowKit
set_option linter.unusedVariables false


theorem LsI.ints {w : World} {B : Nat} {A : Option Addr} {l : List Int} (h : LsI 1 w B A (l.map inC)) : IntsAt w B A l := by
  rcases Nat.eq_zero_or_pos l.length with h0 | h0
  · exact .inl h0
  · exact .inr (inCellsI h h0)
theorem to_ins (A : Option Addr) (l : List Int) (c : Nat) (hl : l.length ≤ 1048576) (w : World) (h : LsI 1 w w.heap.size A (l.map inC)) :
    Calls Try.prog 102 #[.slice A l.length c] w fun e w' => ∃ v, e = .returned v ∧ OwnIn w' w.heap.size v l ∧ Below w.heap.size w w' :=
  (toI_any A l c hl w h.ints).mono fun e w' ⟨v, h1, h2, h3⟩ => ⟨v, h1, h2.toO, h3⟩
end Go.Proofs.Ytckofkdeedbbgaa
/- What this text proves: a byte of a text, read by its index. -/
namespace Go.Proofs.Ytckofkdeedbbgaa
open Go

/-- The byte at an index; 0 where there is none. -/
def byteAt (s : ByteArray) (i : Nat) : Nat := (s.data.toList.getD i 0).toNat
theorem byteAt_of (s : ByteArray) (i : Nat) (h : i < s.size) : (s[i]).toNat = byteAt s i := by
  have h' : i < s.data.toList.length := by simpa using h
  unfold byteAt
  rw [List.getD_eq_getElem?_getD, List.getElem?_eq_getElem h']
  rfl
theorem byteAt_lt (s : ByteArray) (i : Nat) : byteAt s i < 256 := by unfold byteAt; exact UInt8.toNat_lt _
end Go.Proofs.Ytckofkdeedbbgaa
