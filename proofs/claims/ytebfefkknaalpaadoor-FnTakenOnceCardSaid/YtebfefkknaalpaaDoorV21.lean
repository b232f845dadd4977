/- What this text proves: the parts Same, FmtB, Hexd, Hexe of the proof, each under its own words. -/
import Derived.Test.YtebfefkknaalpaaDoorV12
import Derived.Test.YtebfefkknaalpaaDoorV04
import Derived.Laws.Concat
import Derived.BigQuiet
import Derived.Deep.QuietTactic
import Derived.Deep.RegionLaw
import Derived.BigRegion
import Derived.Outline
import Derived.Test.YtebfefkknaalpaaDoorV00
import Derived.Lib.ItoaLen
import Derived.Test.YtebfefkknaalpaaDoorV01
import Derived.Lib.Bytealg
/- What this text proves: two lists that hold the same texts are found equal by the laws' own comparison. -/
namespace Go.Proofs.YtebfefkknaalpaaDoor
open Go.ChangeShapes Go.WideShapes Go.ChangeAt Go.RowKit
set_option linter.unusedVariables false

theorem OwnS.rowsT {w : World} {base : Nat} {v : Value} {l : List ByteArray} (h : OwnS w base v l) (hn : 0 < l.length) :
    ∃ g cap, v = .slice (some ⟨g, 0, none⟩) l.length cap ∧ base ≤ g ∧ g < w.heap.size ∧ (∀ j (hj : j < l.length), w.cell? ⟨g, j, none⟩ = some (.string l[j])) ∧ (∀ j, w.frozen? ⟨g, j, none⟩ = false) := by
  rcases h.2 with ⟨_, h0⟩ | ⟨g, cap, cur, hv, hb, hh, h1, h2, h3, h4⟩
  · omega
  · have hg : g < w.heap.size := by
      rcases Nat.lt_or_ge g w.heap.size with h5 | h5
      · exact h5
      · rw [Array.getElem?_eq_none h5] at hh; cases hh
    subst hv
    refine ⟨g, cap, rfl, hb, hg, fun j hj => ?_, fun j => ?_⟩
    · have hc := World.ownsRow.cellAt h j (by omega)
      rw [hc]
      simp [hj]
    · exact World.ownsRow.frozenAt h j

set_option maxHeartbeats 1000000 in
theorem same_any (w : World) (b1 b2 : Nat) (v1 v2 : Value) (l : List ByteArray) (hl : l.length ≤ 1000000) (h1 : OwnS w b1 v1 l) (h2 : OwnS w b2 v2 l) :
    Calls Tryd.prog 14 #[v1, v2] w fun e w' => e = .returned (.bool true) ∧ ∃ d, w' = w.drewN d := by
  rcases Nat.eq_zero_or_pos l.length with h0 | h0
  · obtain ⟨A1, c1, rfl⟩ := h1.form
    obtain ⟨A2, c2, rfl⟩ := h2.form
    rw [h0]
    go_enter Tryd.func14, Tryd.ntmps14
    go_wp2
    refine wp_loop_rounds 1 ?_
    rw [rounds_succ]
    go_wp2
    go_ret
    exact ⟨rfl, 0, rfl⟩
  · obtain ⟨g1, c1, rfl, _, _, hc1, _⟩ := h1.rowsT h0
    obtain ⟨g2, c2, rfl, _, _, hc2, _⟩ := h2.rowsT h0
    have H1 := Lib.hid hc1
    have H2 := Lib.hid hc2
    clear hc1 hc2 h1 h2
    go_enter Tryd.func14, Tryd.ntmps14
    go_wp2
    go_loopw [5] (fun i wr => ∃ k : Nat, k ≤ l.length ∧ i = .int .i64 (k : Int) ∧ ∃ d, wr = w.drewN d) (fun i _ => l.length - (intOf i).toNat)
    case atStart => exact ⟨0, by omega, rfl, 0, rfl⟩
    case round =>
      obtain ⟨k, hk, rfl, d, rfl⟩ := hrel
      by_cases hlt : k < l.length
      · have hd : decide (k < l.length) = true := by simp; omega
        have e1 := H1.out k hlt
        have e2 := H2.out k hlt
        generalize l[k] = t at e1 e2
        go_wp2
        go_quiet (fail)
        go_wp2
        refine ⟨⟨k + 1, by omega, by go_num, _, rfl⟩, by simp [intOf]; omega⟩
      · have hd : decide (k < l.length) = false := by simp; omega
        clear hlt
        go_wp2
        go_ret
        exact ⟨rfl, d, rfl⟩

end Go.Proofs.YtebfefkknaalpaaDoor
/- What this text proves: the text of a number, as the library's own digits. -/
namespace Go.Proofs.YtebfefkknaalpaaDoor
open Go.ChangeShapes Go.WideShapes Go.ChangeAt Go.RowKit

/-- The text of a number. -/
def fmtB (n : Int) : ByteArray := ⟨(Lib.itoa n).toArray⟩
end Go.Proofs.YtebfefkknaalpaaDoor
/- What this text proves: the contracts of DecodeHex: program and model both return, for every text, the bytes that its pairs of digits stand for, or nothing if one of them is no digit or the length does not fit. -/
namespace Go.Proofs.YtebfefkknaalpaaDoor
open Go.ChangeShapes Go.WideShapes Go.ChangeAt Go.RowKit
set_option linter.unusedVariables false

/-- The value of a digit; -1 for other bytes. -/
def hexV (c : Nat) : Int := if 48 ≤ c ∧ c ≤ 57 then (c : Int) - 48 else if 97 ≤ c ∧ c ≤ 102 then (c : Int) - 87 else -1
theorem hexV_le (c : Nat) : -1 ≤ hexV c ∧ hexV c ≤ 15 := by unfold hexV; split <;> (try split) <;> omega
theorem index_hex : ∀ c : Fin 256, Lib.indexByte [48, 49, 50, 51, 52, 53, 54, 55, 56, 57, 97, 98, 99, 100, 101, 102] (UInt8.ofNat c.val) = hexV c.val := by decide +kernel

def digits : ByteArray := ⟨#[48, 49, 50, 51, 52, 53, 54, 55, 56, 57, 97, 98, 99, 100, 101, 102]⟩
/-- Both digits of a pair are digits. -/
def PairOk (s : ByteArray) (i : Nat) : Prop := 0 ≤ hexV (byteAt s i) ∧ 0 ≤ hexV (byteAt s (i + 1))
def pairB (s : ByteArray) (i : Nat) : UInt8 := UInt8.ofNat (16 * hexV (byteAt s i) + hexV (byteAt s (i + 1))).toNat
/-- The first k bytes. -/
def decB (s : ByteArray) : Nat → List UInt8
  | 0 => []
  | k + 1 => decB s k ++ [pairB s (2 * k)]
theorem decB_len (s : ByteArray) (k : Nat) : (decB s k).length = k := by
  induction k with
  | zero => rfl
  | succ k ih => simp [decB, ih]
theorem pairB_val (s : ByteArray) (i : Nat) (h : PairOk s i) : ((pairB s i).toNat : Int) = 16 * hexV (byteAt s i) + hexV (byteAt s (i + 1)) := by
  unfold pairB
  have h1 := hexV_le (byteAt s i)
  have h2 := hexV_le (byteAt s (i + 1))
  have h3 := h.1
  have h4 := h.2
  rw [UInt8.toNat_ofNat']
  omega
def DecOk (s : ByteArray) : Prop := s.size % 2 = 0 ∧ s.size ≤ 40000 ∧ ∀ k, k < s.size / 2 → PairOk s (2 * k)
/-- What DecodeHex returns. -/
noncomputable def decV (s : ByteArray) : ByteArray × Bool := open Classical in if DecOk s then (⟨(decB s (s.size / 2)).toArray⟩, true) else (⟨#[]⟩, false)
theorem decV_yes {s : ByteArray} (h : DecOk s) : decV s = (⟨(decB s (s.size / 2)).toArray⟩, true) := by unfold decV; rw [if_pos h]
theorem decV_no {s : ByteArray} (h : ¬ DecOk s) : decV s = (⟨#[]⟩, false) := by unfold decV; rw [if_neg h]
def retD (p : ByteArray × Bool) : Ending := .returned (.tuple #[.string p.1, .bool p.2])

theorem or_nib (H L : Int) (h0 : 0 ≤ H) (h1 : H ≤ 15) (l0 : 0 ≤ L) (l1 : L ≤ 15) : bits .or .i64 (H * 16) L = H * 16 + L :=
  bits_join .i64 63 (by decide) wraps_i64 4 _ _ (by omega) (by omega) (by omega) l0 (by omega) (by omega)
def madeB (n : Nat) : Array Value := madeCells (Value.int .u8 0).cells n
theorem madeB_size (n : Nat) : (madeB n).size = n := size_madeCells _ _
theorem make_bytes (W : World) (n : Nat) (hn : n ≤ 1099511627776) :
    (Instr.makeSlice 22 (.int .i64 0) (.int .i64 (n : Int))).run Tryd.prog W = .ok (.slice (some ⟨W.heap.size, 0, none⟩) 0 n) (W.alloc (.cells (madeB n) 5)) := by
  obtain ⟨i, hi, hz0, hz1, hz2⟩ := info_parts info_u8
  have h := run_make (P := Tryd.prog) W 22 5 i (.int .u8 0) Tryd.underlying22 hi hz0 .i64 .i64 0 n (by omega) (by omega) (by rw [hz2]; omega) (by omega)
  rw [hz1] at h
  simpa [madeB] using h

end Go.Proofs.YtebfefkknaalpaaDoor
/- What this text proves: the contracts of EncodeHex: program and model both return, for every text of at most 20000 bytes, two digits for each of its bytes. -/
namespace Go.Proofs.YtebfefkknaalpaaDoor
open Go.ChangeShapes Go.WideShapes Go.ChangeAt Go.RowKit
set_option linter.unusedVariables false

/-- The digit of a number from 0 to 15. -/
def figB (x : Nat) : UInt8 := if x < 10 then UInt8.ofNat (48 + x) else UInt8.ofNat (87 + x)
/-- The digits of the first k bytes. -/
def encB (s : ByteArray) : Nat → List UInt8
  | 0 => []
  | k + 1 => encB s k ++ [figB (byteAt s k / 16), figB (byteAt s k % 16)]
theorem encB_len (s : ByteArray) (k : Nat) : (encB s k).length = 2 * k := by
  induction k with
  | zero => rfl
  | succ k ih => simp [encB, ih]; omega

theorem figure_any (x : Nat) (hx : x < 16) (w : World) :
    Calls Tryd.prog 19 #[.int .i64 x] w fun e w' => e = .returned (.int .u8 ((figB x).toNat : Int)) ∧ w = w' := by
  by_cases h : x < 10
  · have hv := Lib.hid (show ((figB x).toNat : Int) = 48 + (x : Int) by unfold figB; rw [if_pos h, UInt8.toNat_ofNat']; omega)
    have d : decide ((x : Int) < 10) = true := by simp; omega
    clear hx
    go_enter Tryd.func19, Tryd.ntmps19
    go_wp2
    go_ret
    exact ⟨by rw [hv.out]; rfl, rfl⟩
  · have hv := Lib.hid (show ((figB x).toNat : Int) = 97 + (x : Int) - 10 by unfold figB; rw [if_neg h, UInt8.toNat_ofNat']; omega)
    have d : decide ((x : Int) < 10) = false := by simp; omega
    clear h
    go_enter Tryd.func19, Tryd.ntmps19
    go_wp2
    go_ret
    exact ⟨by rw [hv.out]; rfl, rfl⟩

theorem index_digits (n : Nat) (hn : n < 16) (W : World) :
    (Instr.index 9 (.string ⟨#[48, 49, 50, 51, 52, 53, 54, 55, 56, 57, 97, 98, 99, 100, 101, 102]⟩) (.int .u8 (n : Int))).run Tryd.prog W = .ok (.int .u8 ((figB n).toNat : Int)) W := by
  rw [run_index_string W 9 _ .u8 (n : Int) Tryd.underlying9]
  rw [dif_pos (show 0 ≤ (n : Int) ∧ (n : Int) < ((⟨#[48, 49, 50, 51, 52, 53, 54, 55, 56, 57, 97, 98, 99, 100, 101, 102]⟩ : ByteArray).size : Int) from ⟨by omega, by show (n : Int) < ((16 : Nat) : Int); omega⟩)]
  obtain rfl | rfl | rfl | rfl | rfl | rfl | rfl | rfl | rfl | rfl | rfl | rfl | rfl | rfl | rfl | rfl : n = 0 ∨ n = 1 ∨ n = 2 ∨ n = 3 ∨ n = 4 ∨ n = 5 ∨ n = 6 ∨ n = 7 ∨ n = 8 ∨ n = 9 ∨ n = 10 ∨ n = 11 ∨ n = 12 ∨ n = 13 ∨ n = 14 ∨ n = 15 := by omega
  all_goals rfl
def EncOk (s : ByteArray) : Prop := s.size ≤ 20000
/-- What EncodeHex returns. -/
noncomputable def encV (s : ByteArray) : ByteArray × Bool := open Classical in if EncOk s then (⟨(encB s s.size).toArray⟩, true) else (⟨#[]⟩, false)
theorem encV_yes {s : ByteArray} (h : s.size ≤ 20000) : encV s = (⟨(encB s s.size).toArray⟩, true) := by unfold encV; rw [if_pos (show EncOk s from h)]
theorem encV_no {s : ByteArray} (h : ¬ s.size ≤ 20000) : encV s = (⟨#[]⟩, false) := by unfold encV; rw [if_neg (show ¬ EncOk s from h)]

end Go.Proofs.YtebfefkknaalpaaDoor
