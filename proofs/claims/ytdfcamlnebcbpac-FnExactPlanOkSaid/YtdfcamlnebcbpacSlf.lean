/- What this text proves: the contracts of the model's and the program's SlotAt and SlotsOf. -/
import Derived.Test.YtdfcamlnebcbpacPlM
import Derived.Test.YtdfcamlnebcbpacSlU
import Derived.Deep.LoopGhost
import Derived.BigQuiet
namespace Go.Proofs.Ytdfcamlnebcbpac
open Go.ChangeShapes Go.WideShapes Go.ChangeAt Go.RowKit
set_option linter.unusedVariables false

theorem slAt_eq {l : List Sl} {k : Nat} (h : k < l.length) : slAt l k = l[k] := by simp [slAt, h]
theorem soN_yes {l : List Sl} {i : Int} {k : Nat} (h : (slAt l k).2 = i) : soN l i (k + 1) = soN l i k + 1 := by show soN l i k + _ = _; rw [if_pos h]
theorem soN_no {l : List Sl} {i : Int} {k : Nat} (h : ¬ (slAt l k).2 = i) : soN l i (k + 1) = soN l i k := by show soN l i k + _ = _; rw [if_neg h]; rfl
set_option maxRecDepth 20000 in
set_option maxHeartbeats 1000000 in
theorem sof_impl (A : Option Addr) (l : List Sl) (c : Nat) (i : Int) (hl : l.length ≤ 2000000) (w : World) (h : LsI 2 w w.heap.size A (l.map slC)) :
    Calls Try.prog 50 #[.slice A l.length c, .int .i64 i] w fun e w' => e = .returned (.int .i64 (soR l i : Nat)) ∧ Below w.heap.size w w' := by
  have HI := Lib.hid (fun W (hb : Below w.heap.size w W) => h.more hb)
  clear h
  go_enter Try.func50, Try.ntmps50
  go_wp2
  go_loopg [5, 10] l.length (fun gh v1 v2 wx => ∃ k : Nat, k ≤ l.length ∧ gh = l.length - k ∧ v1 = .int .i64 (soN l i k : Nat) ∧ v2 = .int .i64 (k : Int) ∧ Below w.heap.size w wx)
  case atStart => exact ⟨0, by omega, rfl, rfl, rfl, Below.refl _ _⟩
  case round =>
    obtain ⟨k, hk, rfl, rfl, rfl, hbel⟩ := hrel
    have HB := Lib.hid hbel
    have hsn := soN_le l i k
    by_cases hlt : k < l.length
    · have hd : decide (k < l.length) = true := by simp; omega
      have hd' : decide ((k : Int) < (l.length : Int)) = true := by simp; omega
      obtain ⟨bb, off, rfl, hb, hc⟩ := slCellsI (b := 0) (off := 0) (HI.out _ hbel) (by omega)
      obtain ⟨c0, c1⟩ := hc k hlt
      have HE := Lib.hid (slAt_eq hlt)
      clear hc hbel
      generalize l[k] = z at *
      obtain ⟨x, y⟩ := z
      simp only [] at c0 c1
      by_cases he : y = i
      · have hb1 : (y == i) = true := by simpa using he
        have HN := Lib.hid (soN_yes (l := l) (i := i) (k := k) (by rw [HE.out]; exact he))
        clear he
        go_wp2
        go_roundg (l.length - (k + 1))
        case measure => omega
        case rel => exact ⟨k + 1, by omega, rfl, by rw [HN.out]; first | done | rfl | go_num, by go_num, HB.out.alloc HB.out.size _⟩
      · have hb1 : (y == i) = false := by simpa using he
        have HN := Lib.hid (soN_no (l := l) (i := i) (k := k) (by rw [HE.out]; exact he))
        clear he
        go_wp2
        go_roundg (l.length - (k + 1))
        case measure => omega
        case rel => exact ⟨k + 1, by omega, rfl, by rw [HN.out]; first | done | rfl | go_num, by go_num, HB.out.alloc HB.out.size _⟩
    · have hd : decide (k < l.length) = false := by simp; omega
      have hd' : decide ((k : Int) < (l.length : Int)) = false := by simp; omega
      obtain rfl : k = l.length := by omega
      clear hlt
      go_wp2
      go_ret
      exact ⟨rfl, HB.out⟩
set_option maxRecDepth 20000 in
set_option maxHeartbeats 1000000 in
theorem sof_spec (A : Option Addr) (l : List Sl) (c : Nat) (i : Int) (hl : l.length ≤ 2000000) (w : World) (h : LsI 2 w w.heap.size A (l.map slC)) :
    Calls Try.prog 38 #[.slice A l.length c, .int .i64 i] w fun e w' => e = .returned (.int .i64 (soR l i : Nat)) ∧ Below w.heap.size w w' := by
  have HI := Lib.hid (fun W (hb : Below w.heap.size w W) => h.more hb)
  clear h
  go_enter Try.func38, Try.ntmps38
  go_wp2
  go_loopg [5, 6] l.length (fun gh v1 v2 wx => ∃ k : Nat, k ≤ l.length ∧ gh = l.length - k ∧ v1 = .int .i64 (soN l i k : Nat) ∧ v2 = .int .i64 (k : Int) ∧ Below w.heap.size w wx)
  case atStart => exact ⟨0, by omega, rfl, rfl, rfl, Below.refl _ _⟩
  case round =>
    obtain ⟨k, hk, rfl, rfl, rfl, hbel⟩ := hrel
    have HB := Lib.hid hbel
    have hsn := soN_le l i k
    by_cases hlt : k < l.length
    · have hd : decide (k < l.length) = true := by simp; omega
      have hd' : decide ((k : Int) < (l.length : Int)) = true := by simp; omega
      obtain ⟨bb, off, rfl, hb, hc⟩ := slCellsI (b := 0) (off := 0) (HI.out _ hbel) (by omega)
      obtain ⟨c0, c1⟩ := hc k hlt
      have HE := Lib.hid (slAt_eq hlt)
      clear hc hbel
      generalize l[k] = z at *
      obtain ⟨x, y⟩ := z
      simp only [] at c0 c1
      by_cases he : y = i
      · have hb1 : (y == i) = true := by simpa using he
        have HN := Lib.hid (soN_yes (l := l) (i := i) (k := k) (by rw [HE.out]; exact he))
        clear he
        go_wp2
        go_roundg (l.length - (k + 1))
        case measure => omega
        case rel => exact ⟨k + 1, by omega, rfl, by rw [HN.out]; first | done | rfl | go_num, by go_num, HB.out⟩
      · have hb1 : (y == i) = false := by simpa using he
        have HN := Lib.hid (soN_no (l := l) (i := i) (k := k) (by rw [HE.out]; exact he))
        clear he
        go_wp2
        go_roundg (l.length - (k + 1))
        case measure => omega
        case rel => exact ⟨k + 1, by omega, rfl, by rw [HN.out]; first | done | rfl | go_num, by go_num, HB.out⟩
    · have hd : decide (k < l.length) = false := by simp; omega
      have hd' : decide ((k : Int) < (l.length : Int)) = false := by simp; omega
      obtain rfl : k = l.length := by omega
      clear hlt
      go_wp2
      go_ret
      exact ⟨rfl, HB.out⟩
end Go.Proofs.Ytdfcamlnebcbpac
