/- What this text proves: the contracts of the laws' own functions over packers: their sizes, copies, comparisons and marks. -/
import Derived.Test.YtdfcamlnebcbpacBox
import Derived.Test.YtdfcamlnebcbpacMarkI
import Derived.Laws.MakeOwn
import Derived.Deep.LoopGhost
namespace Go.Proofs.Ytdfcamlnebcbpac
open Go.ChangeShapes Go.WideShapes Go.ChangeAt Go.RowKit
set_option linter.unusedVariables false

/-- A packer as a value; v: the slice of its Starts. -/
abbrev paV (c n : Int) (r : ByteArray) (v : Value) : Value := .agg #[.int .i64 c, .int .i64 n, .string r, v]
abbrev paL (c n : Int) (r : ByteArray) (v : Value) : List Value := [.int .i64 c, .int .i64 n, .string r, v]

/-- Numbers that are there to be read: the argument of a law. -/
def IntsAt (w : World) (B : Nat) (A : Option Addr) (l : List Int) : Prop :=
  l.length = 0 ∨ ∃ b off, A = some ⟨b, off, none⟩ ∧ b < B ∧ ∀ j (hj : j < l.length), w.cell? ⟨b, off + j, none⟩ = some (.int .i64 l[j])
theorem IntsAt.more {w w' : World} {B : Nat} {A : Option Addr} {l : List Int} (h : IntsAt w B A l) (hb : Below B w w') : IntsAt w' B A l := by
  rcases h with h | ⟨b, off, hA, hlt, hc⟩
  · exact .inl h
  · exact .inr ⟨b, off, hA, hlt, fun j hj => (hb.cell (p := ⟨b, off + j, none⟩) hlt).trans (hc j hj)⟩

theorem make_fullI (W : World) (n : Nat) (hn : n ≤ 1099511627776) :
    (Instr.makeSlice 38 (.int .i64 (n : Int)) (.int .i64 (n : Int))).run Try.prog W = .ok (.slice (some ⟨W.heap.size, 0, none⟩) n n) (W.alloc (.cells (madeCells (Value.int .i64 0).cells n) 3)) := by
  obtain ⟨i, hi, hz0, hz1, hz2⟩ := info_parts info_int
  have h := run_make (P := Try.prog) W 38 3 i (.int .i64 0) Try.underlying38 hi hz0 .i64 .i64 n n (by omega) (by omega) (by rw [hz2]; omega) (by omega)
  rw [hz1] at h
  simpa using h
theorem make_rowI (W : World) (n : Nat) (hn : n ≤ 1099511627776) : RowI (W.alloc (.cells (madeCells (Value.int .i64 0).cells n) 3)) W.heap.size W.heap.size n n (List.replicate n 0) := by
  have h := World.ownsRow_lit (base := W.heap.size) (e := 3) (size := 1) W (madeCells (Value.int .i64 0).cells n) n (Nat.le_refl _) (by unfold maxLen; omega) (by rw [size_madeCells]; omega)
  have e : (madeCells (Value.int .i64 0).cells n).toList = (List.replicate n (0 : Int)).map (Value.int .i64) := by
    rw [show (Value.int .i64 0).cells = #[Value.int .i64 0] from rfl, toList_madeCells_one, List.map_replicate]
  rw [e] at h
  exact h
theorem RowI.own {w : World} {base g n c : Nat} {m : List Int} (h : RowI w base g n c m) : OwnI w base (.slice (some ⟨g, 0, none⟩) n c) m := by
  unfold OwnI
  rw [h.len]
  exact h

set_option maxHeartbeats 2000000 in
theorem toI_any (A : Option Addr) (l : List Int) (c : Nat) (hl : l.length ≤ 1048576) (w : World) (h : IntsAt w w.heap.size A l) :
    Calls Try.prog 63 #[.slice A l.length c] w fun e w' => ∃ v, e = .returned v ∧ OwnI w' w.heap.size v l ∧ Below w.heap.size w w' := by
  have hmk := fun W => make_fullI W l.length (by omega)
  have HR0 := Lib.hid (make_rowI w l.length (by omega))
  have HB0 := Lib.hid ((Below.refl _ w).alloc (Nat.le_refl _) (.cells (madeCells (Value.int .i64 0).cells l.length) 3))
  have HI := Lib.hid (fun W (hb : Below w.heap.size w W) => h.more hb)
  clear h
  go_enter Try.func63, Try.ntmps63
  go_wp2
  clear hmk
  go_loopg [4] l.length (fun gh v4 wx => ∃ (k : Nat) (m : List Int), k ≤ l.length ∧ gh = l.length - k ∧ v4 = .int .i64 (k : Int) ∧ m.take k = l.take k ∧ RowI wx w.heap.size w.heap.size l.length l.length m ∧ Below w.heap.size w wx)
  case atStart => exact ⟨0, List.replicate l.length 0, by omega, rfl, rfl, rfl, HR0.out, HB0.out⟩
  case round =>
    obtain ⟨k, m, hk, rfl, rfl, htk, hrow, hbel⟩ := hrel
    have HTK := Lib.hid htk
    have HB := Lib.hid hbel
    clear htk
    by_cases hlt : k < l.length
    · have hd : decide (k < l.length) = true := by simp; omega
      have hd' : decide ((k : Int) < (l.length : Int)) = true := by simp; omega
      rcases HI.out _ hbel with h0 | ⟨b, off, rfl, hb, hc⟩
      · omega
      · have hck := hc k hlt
        have hml := hrow.len
        have hcell := hrow.cell k hlt
        have hf := hrow.frozen k
        have HST := Lib.hid (hrow.store k l[k])
        have HLK := Lib.hid (show (m.set k l[k]).take (k + 1) = l.take (k + 1) by
          rw [List.take_succ_eq_append_getElem (by rw [List.length_set]; omega), List.getElem_set_self, List.take_set_of_le (Nat.le_refl _), HTK.out, ← List.take_succ_eq_append_getElem hlt])
        obtain ⟨x, hx⟩ : ∃ x, l[k] = x := ⟨_, rfl⟩
        rw [hx] at hck HST HLK
        clear hc hx hbel
        go_wp2
        go_roundg (l.length - (k + 1))
        case measure => omega
        case rel => exact ⟨k + 1, _, by omega, rfl, by go_num, HLK.out, HST.out, HB.out.setCell (p := ⟨w.heap.size, k, none⟩) (Nat.le_refl _) _⟩
    · have hd : decide (k < l.length) = false := by simp; omega
      have hd' : decide ((k : Int) < (l.length : Int)) = false := by simp; omega
      have hml := hrow.len
      have HF := Lib.hid (show m = l by
        have h := HTK.out
        rw [List.take_of_length_le (by omega), List.take_of_length_le (by omega)] at h
        exact h)
      have HO := Lib.hid (show OwnI wr w.heap.size (.slice (some ⟨w.heap.size, 0, none⟩) l.length l.length) l by
        have ho := hrow.own
        rw [HF.out] at ho
        exact ho)
      clear hrow hml
      go_wp2
      go_ret
      exact ⟨_, rfl, HO.out, HB.out⟩
theorem szI_any (A : Option Addr) (n c L : Nat) (hn : n ≤ maxLen) (hL : L ≤ 1048576) (w : World) :
    Calls Try.prog 55 #[.slice A n c, .int .i64 (L : Int)] w fun e w' => e = .returned (.int .i64 (if n ≤ L then (L : Int) - (n : Int) else -1)) ∧ w = w' := by
  have hn' : n ≤ 9223372036854775807 := by unfold maxLen at hn; omega
  by_cases h : n ≤ L
  · rw [if_pos h]
    have hd0 : decide ((L : Int) - (n : Int) < 0) = false := by simp; omega
    go_enter Try.func55, Try.ntmps55
    go_wp2
    go_ret
    exact ⟨rfl, rfl⟩
  · rw [if_neg h]
    have hd0 : decide ((L : Int) - (n : Int) < 0) = true := by simp; omega
    go_enter Try.func55, Try.ntmps55
    go_wp2
    go_ret
    exact ⟨rfl, rfl⟩
end Go.Proofs.Ytdfcamlnebcbpac
