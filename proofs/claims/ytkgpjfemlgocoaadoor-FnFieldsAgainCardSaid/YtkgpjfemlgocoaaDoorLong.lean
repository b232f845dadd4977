/- What this text proves: the drawn texts: one byte again and again, or bytes off the cursor: each is as long as is asked for. -/
import Derived.Test.YtkgpjfemlgocoaaDoorNew
import Derived.Test.YtkgpjfemlgocoaaDoorBuf
namespace Go.Proofs.YtkgpjfemlgocoaaDoor
open Go.ChangeShapes Go.WideShapes Go.ChangeAt Go.RowKit
set_option linter.unusedVariables false

/-- Block g holds the n bytes m. -/
def RowB (w : World) (base g n c : Nat) (m : List UInt8) : Prop := w.ownsRow base 5 1 (.slice (some ⟨g, 0, none⟩) n c) n (m.map cellB)
theorem RowB.len {w : World} {base g n c : Nat} {m : List UInt8} (h : RowB w base g n c m) : m.length = n := by have := h.1; simpa using this
theorem RowB.store {w : World} {base g n c : Nat} {m : List UInt8} (h : RowB w base g n c m) (j : Nat) (t : UInt8) : RowB (w.setCell ⟨g, j, none⟩ (.int .u8 (t.toNat : Int))) base g n c (m.set j t) := by
  have h2 := (World.ownsRow.stored h j (cellB t)).1
  unfold RowB
  rw [List.map_set]
  exact h2
theorem RowB.cell {w : World} {base g n c : Nat} {m : List UInt8} (h : RowB w base g n c m) (j : Nat) (hj : j < n) : w.cell? ⟨g, j, none⟩ = some (cellB (m[j]'(by rw [h.len]; exact hj))) := by
  rw [World.ownsRow.cellAt h j (by omega)]
  have := h.len
  simp [show j < m.length by omega]
theorem RowB.frozen {w : World} {base g n c : Nat} {m : List UInt8} (h : RowB w base g n c m) (j : Nat) : w.frozen? ⟨g, j, none⟩ = false := World.ownsRow.frozenAt h j
theorem RowB.own {w : World} {base g n c : Nat} {m : List UInt8} (h : RowB w base g n c m) : OwnB w base (.slice (some ⟨g, 0, none⟩) n c) m := by
  unfold OwnB
  rw [h.len]
  exact h

theorem make_full (W : World) (n : Nat) (hn : n ≤ 1099511627776) :
    (Instr.makeSlice 27 (.int .i64 (n : Int)) (.int .i64 (n : Int))).run Tryd.prog W = .ok (.slice (some ⟨W.heap.size, 0, none⟩) n n) (W.alloc (.cells (madeCells (Value.int .u8 0).cells n) 5)) := by
  obtain ⟨i, hi, hz0, hz1, hz2⟩ := info_parts info_u8
  have h := run_make (P := Tryd.prog) W 27 5 i (.int .u8 0) Tryd.underlying27 hi hz0 .i64 .i64 n n (by omega) (by omega) (by rw [hz2]; omega) (by omega)
  rw [hz1] at h
  simpa using h
theorem make_row (W : World) (n : Nat) (hn : n ≤ 1099511627776) : RowB (W.alloc (.cells (madeCells (Value.int .u8 0).cells n) 5)) W.heap.size W.heap.size n n (List.replicate n 0) := by
  have h := World.ownsRow_lit (base := W.heap.size) (e := 5) (size := 1) W (madeCells (Value.int .u8 0).cells n) n (Nat.le_refl _) (by unfold maxLen; omega) (by rw [size_madeCells]; omega)
  have e : (madeCells (Value.int .u8 0).cells n).toList = (List.replicate n (0 : UInt8)).map cellB := by
    rw [show (Value.int .u8 0).cells = #[Value.int .u8 0] from rfl, toList_madeCells_one, List.map_replicate]
    rfl
  rw [e] at h
  exact h

def SizedRes (m : Nat) (w : World) (e : Ending) (w' : World) : Prop := ∃ s : ByteArray, s.size = m ∧ e = .returned (.string s) ∧ Below w.heap.size w w'

set_option maxHeartbeats 1000000 in
theorem long_any (w : World) (n : Nat) (c : UInt8) (hn : n ≤ 1048576) :
    Calls Tryd.prog 26 #[.int .i64 n, .int .u8 (c.toNat : Int)] w (SizedRes n w) := by
  have hmk := fun W => make_full W n (by omega)
  have hrow0 := Lib.hid (make_row w n (by omega))
  go_enter Tryd.func26, Tryd.ntmps26
  go_wp2
  clear hmk
  go_loopw [6] (fun i wr => ∃ (k : Nat) (m : List UInt8), k ≤ n ∧ i = .int .i64 (k : Int) ∧ RowB wr w.heap.size w.heap.size n n m ∧ Below w.heap.size w wr) (fun i _ => n - (intOf i).toNat)
  case atStart => exact ⟨0, List.replicate n 0, by omega, rfl, hrow0.out, (Below.refl _ _).alloc (Nat.le_refl _) _⟩
  case round =>
    obtain ⟨k, m, hk, rfl, hrow, hbel⟩ := hrel
    by_cases hlt : k < n
    · have hd : decide (k < n) = true := by simp; omega
      have hc := hrow.cell k hlt
      have hf := hrow.frozen k
      have HS := Lib.hid (hrow.store k c)
      go_wp2
      refine ⟨⟨k + 1, m.set k c, by omega, by go_num, HS.out, hbel.setCell (Nat.le_refl _) _⟩, by simp [intOf]; omega⟩
    · have hd : decide (k < n) = false := by simp; omega
      have hcv := conv_bytes wr _ _ _ hrow.own
      have hml := Lib.hid hrow.len
      clear hlt hrow
      go_wp2
      go_ret
      exact ⟨⟨m.toArray⟩, by show m.toArray.size = n; simpa using hml.out, rfl, hbel⟩

def lenL : Value → Nat
  | .slice _ n _ => n
  | _ => 0
theorem OwnB.kept' {w w' : World} {base g : Nat} {v : Value} {l : List UInt8} (h : OwnB w base v l) (hg : w.grownBy w' (some g)) (hlt : g < base) : OwnB w' base v l := by
  refine World.ownsRow.kept h hg ?_
  by_cases he : v.ownBlock = none
  · exact .inl he
  · refine .inr fun e => ?_
    have := (World.ownsRow.lt h g e).1
    omega

def TxtRes (m : Nat) (g : Nat) (w : World) (e : Ending) (w' : World) : Prop := ∃ s : ByteArray, s.size = m ∧ e = .returned (.string s) ∧ CurB w' g ∧ w.grownBy w' (some g)

set_option maxHeartbeats 1000000 in
theorem text_any (w : World) (g m : Nat) (hm : m ≤ 5000) (hcur : CurB w g) :
    Calls Tryd.prog 28 #[.pointer (some ⟨g, 0, none⟩), .int .i64 m] w (TxtRes m g w) := by
  have hlt := hcur.lt
  have Hcur := Lib.hid hcur
  have hd0 : decide ((5000 : Int) < (m : Int)) = false := by simp; omega
  clear hcur
  go_enter Tryd.func28, Tryd.ntmps28
  go_wp2
  go_loopw [5, 6] (fun v i wr => ∃ (k : Nat) (l : List UInt8), k ≤ m ∧ i = .int .i64 (k : Int) ∧ l.length = k ∧ OwnB wr w.heap.size v l ∧ CurB wr g ∧ w.grownBy wr (some g)) (fun _ i _ => m - (intOf i).toNat)
  case atStart => exact ⟨0, [], by omega, rfl, rfl, OwnB.empty w _ (Nat.le_refl _), Hcur.out.more ((Below.refl w.heap.size w).alloc (Nat.le_refl _) _) hlt, World.grownBy_alloc w _ _⟩
  case round =>
    obtain ⟨k, l, hk, rfl, hl, hown, hcu, hgr⟩ := hrel
    have Hl := Lib.hid hl
    clear hl
    have hsz := hgr.size
    by_cases hlm : k < m
    · have hd : decide (k < m) = true := by simp; omega
      go_wp2_with fail
      refine (byte_any _ g hcu).mono ?_
      rintro e w2 ⟨x, hx, rfl, hc2, hg2⟩
      have hown2 := hown.kept' hg2 hlt
      have hsz2 : w.heap.size ≤ w2.heap.size := Nat.le_trans hsz hg2.size
      go_wp2_with (at_builtin; refine app_bytes w2 rfl _ _ rfl w.heap.size u5 l [UInt8.ofNat x] rfl hown2 _ _ 1 1 rfl rfl ?c1 ?c2 hsz2 ?_)
      case c1 => simp [cellB, UInt8.toNat_ofNat']; omega
      case c2 => rw [Hl.out]; simp; omega
      intro v' w' hown' hbel' hsz'
      go_wp2
      refine ⟨⟨k + 1, l ++ [UInt8.ofNat x], by omega, by go_num, by simp [Hl.out], hown', hc2.more hbel' hlt, grown_then_below (grown_trans hgr hg2) hbel' (Nat.le_refl _)⟩, by simp [intOf]; omega⟩
    · have hd : decide (k < m) = false := by simp; omega
      have hcv := conv_bytes wr _ _ _ hown
      have hlm2 := Lib.hid (show l.length = m by rw [Hl.out]; omega)
      clear hlm
      go_wp2
      go_ret
      exact ⟨⟨l.toArray⟩, by show l.toArray.size = m; simpa using hlm2.out, rfl, hcu, hgr⟩
end Go.Proofs.YtkgpjfemlgocoaaDoor
