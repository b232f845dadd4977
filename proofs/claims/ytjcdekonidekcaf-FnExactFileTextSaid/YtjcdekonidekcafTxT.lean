/- What this text proves: the contracts of the laws' own functions over a list of texts that was handed to them: its size, its copy. -/
import Derived.Test.YtjcdekonidekcafTxS
import Derived.Test.YtjcdekonidekcafGro
import Derived.Laws.MakeOwn
import Derived.Deep.LoopGhost
namespace Go.Proofs.Ytjcdekonidekcaf
open Go.ChangeShapes Go.WideShapes Go.ChangeAt Go.RowKit
set_option linter.unusedVariables false

/-- The bytes of the first k. -/
def totTx (fs : List ByteArray) : Nat → Nat
  | 0 => 0
  | k + 1 => totTx fs k + (fs.getD k ⟨#[]⟩).size
theorem totTx_le (fs : List ByteArray) {j k : Nat} (h : j ≤ k) : totTx fs j ≤ totTx fs k := by
  induction k with
  | zero => obtain rfl : j = 0 := by omega
            exact Nat.le_refl _
  | succ k ih =>
    rcases Nat.lt_or_ge j (k + 1) with h1 | h1
    · exact Nat.le_trans (ih (by omega)) (Nat.le_add_right _ _)
    · obtain rfl : j = k + 1 := by omega
      exact Nat.le_refl _
theorem getTx_at {l : List ByteArray} {k : Nat} (h : k < l.length) : l.getD k ⟨#[]⟩ = l[k] := by
  rw [List.getD_eq_getElem?_getD, List.getElem?_eq_getElem h]
  rfl
theorem totTx_succ {l : List ByteArray} {k : Nat} (h : k < l.length) : totTx l (k + 1) = totTx l k + l[k].size := by simp only [totTx]; rw [getTx_at h]
theorem totTx_at (l : List ByteArray) {k : Nat} (h : k < l.length) : l[k].size ≤ totTx l l.length := by
  have h1 := totTx_succ h
  have h2 := totTx_le l (show k + 1 ≤ l.length from h)
  omega

/-- What is left of a limit. -/
def szV (n L : Nat) : Int := if n ≤ L then ((L - n : Nat) : Int) else -1
theorem szV_yes {n L : Nat} (h : n ≤ L) : szV n L = ((L - n : Nat) : Int) := if_pos h
theorem szV_no {n L : Nat} (h : ¬ n ≤ L) : szV n L = -1 := if_neg h

set_option maxHeartbeats 2000000 in
theorem sz_txs (A : Option Addr) (l : List ByteArray) (c L : Nat) (hl : l.length ≤ maxLen) (hs : ∀ j (hj : j < l.length), l[j].size ≤ maxLen) (hL : L ≤ 1048576) (w : World) (h : LsI 1 w w.heap.size A (l.map txC)) :
    Calls Try.prog 32 #[.slice A l.length c, .int .i64 (L : Int)] w fun e w' => e = .returned (.int .i64 (szV (l.length + totTx l l.length) L)) ∧ w = w' := by
  have hl' : l.length ≤ 9223372036854775807 := by unfold maxLen at hl; omega
  by_cases h0 : l.length ≤ L
  · have hd0 : decide ((L : Int) - (l.length : Int) < 0) = false := by simp; omega
    have HI := Lib.hid h
    have HZ := Lib.hid (fun (j : Nat) (hj : j < l.length) => (show l[j].size ≤ 9223372036854775807 from by have := hs j hj; unfold maxLen at this; omega))
    clear h hs
    go_enter Try.func32, Try.ntmps32
    go_wp2
    go_loopg [1, 5] l.length (fun gh v1 v5 wx => ∃ k : Nat, k ≤ l.length ∧ gh = l.length - k ∧ v5 = .int .i64 (k : Int) ∧ l.length + totTx l k ≤ L ∧ v1 = .int .i64 (((L - (l.length + totTx l k) : Nat) : Int)) ∧ w = wx)
    case atStart => exact ⟨0, by omega, rfl, rfl, by simpa [totTx] using h0, by simp only [totTx]; congr 1; omega, rfl⟩
    case round =>
      obtain ⟨k, hk, rfl, rfl, hLk, rfl, rfl⟩ := hrel
      by_cases hlt : k < l.length
      · have hd : decide (k < l.length) = true := by simp; omega
        have hd' : decide ((k : Int) < (l.length : Int)) = true := by simp; omega
        obtain ⟨b, off, rfl, hb, hc⟩ := txCellsI HI.out (by omega)
        have hck := hc k hlt
        have hz := HZ.out k hlt
        have HTT := Lib.hid (totTx_succ hlt)
        have HLE := Lib.hid (totTx_le l (show k + 1 ≤ l.length from hlt))
        clear hc
        generalize l[k] = x at *
        by_cases hfit : x.size ≤ L - (l.length + totTx l k)
        · have hd1 : decide (((L - (l.length + totTx l k) : Nat) : Int) - (x.size : Int) < 0) = false := by simp; omega
          have HV := Lib.hid (show ((L - (l.length + totTx l k) : Nat) : Int) - (x.size : Int) = ((L - (l.length + totTx l (k + 1)) : Nat) : Int) from by rw [HTT.out]; omega)
          have HN := Lib.hid (show l.length + totTx l (k + 1) ≤ L from by rw [HTT.out]; omega)
          have u1 : 0 ≤ ((L - (l.length + totTx l k) : Nat) : Int) - (x.size : Int) := by omega
          have u2 : ((L - (l.length + totTx l k) : Nat) : Int) ≤ 1048576 := by omega
          generalize ((L - (l.length + totTx l k) : Nat) : Int) = U at *
          go_wp2
          go_roundg (l.length - (k + 1))
          case measure => omega
          case rel => exact ⟨k + 1, by omega, rfl, by go_num, HN.out, by rw [← HV.out], rfl⟩
        · have hd1 : decide (((L - (l.length + totTx l k) : Nat) : Int) - (x.size : Int) < 0) = true := by simp; omega
          have HV := Lib.hid (show ¬ l.length + totTx l l.length ≤ L from by have := HLE.out; rw [HTT.out] at this; omega)
          have HW := Lib.hid (szV_no HV.out)
          have u1 : 0 ≤ ((L - (l.length + totTx l k) : Nat) : Int) := by omega
          have u2 : ((L - (l.length + totTx l k) : Nat) : Int) ≤ 1048576 := by omega
          generalize ((L - (l.length + totTx l k) : Nat) : Int) = U at *
          go_wp2
          go_ret
          exact ⟨by rw [HW.out]; rfl, rfl⟩
      · have hd : decide (k < l.length) = false := by simp; omega
        have hd' : decide ((k : Int) < (l.length : Int)) = false := by simp; omega
        obtain rfl : k = l.length := by omega
        have HW := Lib.hid (szV_yes hLk)
        clear hlt
        go_wp2
        go_ret
        exact ⟨by rw [HW.out]; rfl, rfl⟩
  · have hd0 : decide ((L : Int) - (l.length : Int) < 0) = true := by simp; omega
    have HW := Lib.hid (szV_no (n := l.length + totTx l l.length) (L := L) (by omega))
    clear h hs
    go_enter Try.func32, Try.ntmps32
    go_wp2
    go_ret
    exact ⟨by rw [HW.out]; rfl, rfl⟩
/-- Block g holds the n texts m. -/
def RowX (w : World) (base g n c : Nat) (m : List ByteArray) : Prop := w.ownsRow base 9 1 (.slice (some ⟨g, 0, none⟩) n c) n (m.map Value.string)
theorem RowX.len {w : World} {base g n c : Nat} {m : List ByteArray} (h : RowX w base g n c m) : m.length = n := by have := h.1; simpa using this
theorem RowX.store {w : World} {base g n c : Nat} {m : List ByteArray} (h : RowX w base g n c m) (j : Nat) (t : ByteArray) : RowX (w.setCell ⟨g, j, none⟩ (.string t)) base g n c (m.set j t) := by
  have h2 := (World.ownsRow.stored h j (.string t)).1
  unfold RowX
  rw [List.map_set]
  exact h2
theorem RowX.cell {w : World} {base g n c : Nat} {m : List ByteArray} (h : RowX w base g n c m) (j : Nat) (hj : j < n) : w.cell? ⟨g, j, none⟩ = some (.string (m[j]'(by rw [h.len]; exact hj))) := by
  rw [World.ownsRow.cellAt h j (by omega)]
  have := h.len
  simp [show j < m.length by omega]
theorem RowX.frozen {w : World} {base g n c : Nat} {m : List ByteArray} (h : RowX w base g n c m) (j : Nat) : w.frozen? ⟨g, j, none⟩ = false := World.ownsRow.frozenAt h j
theorem make_fullX (W : World) (n : Nat) (hn : n ≤ 109951162777) :
    (Instr.makeSlice 22 (.int .i64 (n : Int)) (.int .i64 (n : Int))).run Try.prog W = .ok (.slice (some ⟨W.heap.size, 0, none⟩) n n) (W.alloc (.cells (madeCells (Value.string ⟨#[]⟩).cells n) 9)) := by
  obtain ⟨i, hi, hz0, hz1, hz2⟩ := info_parts info_str
  have h := run_make (P := Try.prog) W 22 9 i (.string ⟨#[]⟩) Try.underlying22 hi hz0 .i64 .i64 n n (by omega) (by omega) (by rw [hz2]; omega) (by omega)
  rw [hz1] at h
  simpa using h
theorem make_rowX (W : World) (n : Nat) (hn : n ≤ 109951162777) : RowX (W.alloc (.cells (madeCells (Value.string ⟨#[]⟩).cells n) 9)) W.heap.size W.heap.size n n (List.replicate n ⟨#[]⟩) := by
  have h := World.ownsRow_lit (base := W.heap.size) (e := 9) (size := 1) W (madeCells (Value.string ⟨#[]⟩).cells n) n (Nat.le_refl _) (by unfold maxLen; omega) (by rw [size_madeCells]; omega)
  have e : (madeCells (Value.string ⟨#[]⟩).cells n).toList = (List.replicate n (⟨#[]⟩ : ByteArray)).map Value.string := by
    rw [show (Value.string ⟨#[]⟩).cells = #[Value.string ⟨#[]⟩] from rfl, toList_madeCells_one, List.map_replicate]
  rw [e] at h
  exact h
theorem RowX.own {w : World} {base g n c : Nat} {m : List ByteArray} (h : RowX w base g n c m) : OwnR 9 1 w base (.slice (some ⟨g, 0, none⟩) n c) (m.map txC) := by
  refine ⟨?_, tx_len m⟩
  rw [tx_flat, List.length_map, h.len]
  exact h
theorem LsI.texts {w : World} {B : Nat} {A : Option Addr} {l : List ByteArray} (h : LsI 1 w B A (l.map txC)) : l.length = 0 ∨ ∃ b off, A = some ⟨b, off, none⟩ ∧ b < B ∧ ∀ k (hk : k < l.length), w.cell? ⟨b, off + k, none⟩ = some (.string l[k]) := by
  rcases Nat.eq_zero_or_pos l.length with h0 | h0
  · exact .inl h0
  · exact .inr (txCellsI h h0)

set_option maxHeartbeats 2000000 in
theorem to_txs (A : Option Addr) (l : List ByteArray) (c : Nat) (hl : l.length ≤ 1048576) (w : World) (h : LsI 1 w w.heap.size A (l.map txC)) :
    Calls Try.prog 34 #[.slice A l.length c] w fun e w' => ∃ v, e = .returned v ∧ OwnR 9 1 w' w.heap.size v (l.map txC) ∧ Below w.heap.size w w' := by
  have hmk := fun W => make_fullX W l.length (by omega)
  have HR0 := Lib.hid (make_rowX w l.length (by omega))
  have HB0 := Lib.hid ((Below.refl _ w).alloc (Nat.le_refl _) (.cells (madeCells (Value.string ⟨#[]⟩).cells l.length) 9))
  have HI := Lib.hid (fun W (hb : Below w.heap.size w W) => LsI.texts (h.more hb))
  clear h
  go_enter Try.func34, Try.ntmps34
  go_wp2
  clear hmk
  go_loopg [4] l.length (fun gh v4 wx => ∃ (k : Nat) (m : List ByteArray), k ≤ l.length ∧ gh = l.length - k ∧ v4 = .int .i64 (k : Int) ∧ m.take k = l.take k ∧ RowX wx w.heap.size w.heap.size l.length l.length m ∧ Below w.heap.size w wx)
  case atStart => exact ⟨0, List.replicate l.length ⟨#[]⟩, by omega, rfl, rfl, rfl, HR0.out, HB0.out⟩
  case round =>
    obtain ⟨k, m, hk, rfl, rfl, htk, hrow, hbel⟩ := hrel
    have HTK := Lib.hid htk
    have HB := Lib.hid hbel
    clear htk
    by_cases hlt : k < l.length
    · have hd : decide (k < l.length) = true := by simp; omega
      have hd' : decide ((k : Int) < (l.length : Int)) = true := by simp; omega
      rcases HI.out _ hbel with h0 | ⟨b, off, rfl, hb, hc⟩
      · omega
      · have hck := hc k hlt
        have hml := hrow.len
        have hcell := hrow.cell k hlt
        have hf := hrow.frozen k
        have HST := Lib.hid (hrow.store k l[k])
        have HLK := Lib.hid (show (m.set k l[k]).take (k + 1) = l.take (k + 1) by
          rw [List.take_succ_eq_append_getElem (by rw [List.length_set]; omega), List.getElem_set_self, List.take_set_of_le (Nat.le_refl _), HTK.out, ← List.take_succ_eq_append_getElem hlt])
        obtain ⟨x, hx⟩ : ∃ x, l[k] = x := ⟨_, rfl⟩
        rw [hx] at hck HST HLK
        clear hc hx hbel
        go_wp2
        go_roundg (l.length - (k + 1))
        case measure => omega
        case rel => exact ⟨k + 1, _, by omega, rfl, by go_num, HLK.out, HST.out, HB.out.setCell (p := ⟨w.heap.size, k, none⟩) (Nat.le_refl _) _⟩
    · have hd : decide (k < l.length) = false := by simp; omega
      have hd' : decide ((k : Int) < (l.length : Int)) = false := by simp; omega
      have hml := hrow.len
      have HF := Lib.hid (show m = l by
        have h := HTK.out
        rw [List.take_of_length_le (by omega), List.take_of_length_le (by omega)] at h
        exact h)
      have HO := Lib.hid (show OwnR 9 1 wr w.heap.size (.slice (some ⟨w.heap.size, 0, none⟩) l.length l.length) (l.map txC) by
        have ho := hrow.own
        rw [HF.out] at ho
        exact ho)
      clear hrow hml
      go_wp2
      go_ret
      exact ⟨_, rfl, HO.out, HB.out⟩

end Go.Proofs.Ytjcdekonidekcaf
