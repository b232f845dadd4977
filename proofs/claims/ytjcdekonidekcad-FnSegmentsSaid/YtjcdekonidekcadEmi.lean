/- What this text proves: the contracts of the program's areWithin, and of EncodeMissing, of the program and the model; its law. -/
import Derived.Test.YtjcdekonidekcadSg
import Derived.Test.YtjcdekonidekcadInT
import Derived.Test.YtjcdekonidekcadPktE
import Derived.Test.YtjcdekonidekcadPutS
import Derived.Laws.Concat
import Derived.Deep.LoopGhost
namespace Go.Proofs.Ytjcdekonidekcad
open Go.ChangeShapes Go.WideShapes Go.ChangeAt Go.RowKit
set_option linter.unusedVariables false

/-- All numbers lie between two. -/
def Amid (d : List Int) (a b : Int) : Prop := ∀ k (hk : k < d.length), a ≤ d[k] ∧ d[k] ≤ b
noncomputable def amidB (d : List Int) (a b : Int) : Bool := @decide (Amid d a b) (Classical.propDecidable _)
theorem amidB_yes {d : List Int} {a b : Int} (h : Amid d a b) : amidB d a b = true := by unfold amidB; exact @decide_eq_true _ (Classical.propDecidable _) h
theorem amidB_no {d : List Int} {a b : Int} (h : ¬ Amid d a b) : amidB d a b = false := by unfold amidB; exact @decide_eq_false _ (Classical.propDecidable _) h

set_option maxHeartbeats 1000000 in
theorem am_impl (A : Option Addr) (d : List Int) (c : Nat) (a b : Int) (hl : d.length ≤ 2000000) (w : World) (h : LsI 1 w w.heap.size A (d.map inC)) :
    Calls Try.prog 39 #[.slice A d.length c, .int .i64 a, .int .i64 b] w fun e w' => e = .returned (.bool (amidB d a b)) ∧ w = w' := by
  have HI := Lib.hid h
  have HW := Lib.hid (fun x W => iw_any x a b W)
  have HN := Lib.hid (fun k (hk : k < d.length) (h : ¬ (a ≤ d[k] ∧ d[k] ≤ b)) => amidB_no (d := d) (a := a) (b := b) (fun hw => h (hw k hk)))
  have HY := Lib.hid (fun (h : ∀ k (hk : k < d.length), a ≤ d[k] ∧ d[k] ≤ b) => amidB_yes h)
  clear h
  go_enter Try.func39, Try.ntmps39
  go_wp2
  go_loopg [11] d.length (fun gh v wx => ∃ k : Nat, k ≤ d.length ∧ gh = d.length - k ∧ v = .int .i64 (k : Int) ∧ (∀ j (hj : j < d.length), j < k → a ≤ d[j] ∧ d[j] ≤ b) ∧ w = wx)
  case atStart => exact ⟨0, by omega, rfl, rfl, fun j _ h => absurd h (Nat.not_lt_zero _), rfl⟩
  case round =>
    obtain ⟨k, hk, rfl, rfl, hall, rfl⟩ := hrel
    have HA := Lib.hid hall
    clear hall
    by_cases hlt : k < d.length
    · have hd : decide (k < d.length) = true := by simp; omega
      have hd' : decide ((k : Int) < (d.length : Int)) = true := by simp; omega
      obtain ⟨bb, off, rfl, hb, hc⟩ := inCellsI HI.out (by omega)
      have hck := hc k hlt
      clear hc
      by_cases hin : a ≤ d[k] ∧ d[k] ≤ b
      · have H1 := HW.out d[k]
        rw [decide_eq_true hin] at H1
        have HA2 := Lib.hid (show ∀ j (hj : j < d.length), j < k + 1 → a ≤ d[j] ∧ d[j] ≤ b from fun j hj hjk => by
          rcases Nat.lt_or_ge j k with h3 | h3
          · exact HA.out j hj h3
          · obtain rfl : j = k := by omega
            exact hin)
        have H1 := Lib.hid H1
        generalize d[k] = x at *
        clear hin
        go_wp2_with fail
        refine (H1.out _).mono ?_
        rintro e w' ⟨rfl, rfl⟩
        go_wp2
        go_roundg (d.length - (k + 1))
        case measure => omega
        case rel => exact ⟨k + 1, by omega, rfl, by go_num, HA2.out, rfl⟩
      · have H1 := HW.out d[k]
        rw [decide_eq_false hin] at H1
        have HV := Lib.hid (HN.out k hlt hin)
        have H1 := Lib.hid H1
        generalize d[k] = x at *
        clear hin
        go_wp2_with fail
        refine (H1.out _).mono ?_
        rintro e w' ⟨rfl, rfl⟩
        go_wp2
        go_ret
        exact ⟨by rw [HV.out]; rfl, rfl⟩
    · have hd : decide (k < d.length) = false := by simp; omega
      have hd' : decide ((k : Int) < (d.length : Int)) = false := by simp; omega
      have HV := Lib.hid (HY.out (fun j hj => HA.out j hj (by omega)))
      clear hlt
      go_wp2
      go_ret
      exact ⟨by rw [HV.out]; rfl, rfl⟩


def EmOk (f : Int) (l : List Int) : Prop := (0 ≤ f ∧ f ≤ 7) ∧ l.length ≤ 20 ∧ Amid l 0 24
/-- The file and the first k numbers, a byte each. -/
noncomputable def emP (f : Int) (l : List Int) : Nat → ByteArray
  | 0 => putS f 1
  | k + 1 => emP f l k ++ putS (l.getD k 0) 1
/-- What EncodeMissing returns. -/
noncomputable def emT (f : Int) (l : List Int) : ByteArray := open Classical in if EmOk f l then emP f l l.length else ⟨#[]⟩
theorem emT_yes {f : Int} {l : List Int} (h : EmOk f l) : emT f l = emP f l l.length := by unfold emT; exact if_pos h
theorem emT_no {f : Int} {l : List Int} (h : ¬ EmOk f l) : emT f l = ⟨#[]⟩ := by unfold emT; exact if_neg h
theorem emP_size (f : Int) (l : List Int) (k : Nat) : (emP f l k).size ≤ 4 + 4 * k := by
  induction k with
  | zero => exact putS_four_le f 1
  | succ k ih =>
    have := putS_four_le (l.getD k 0) 1
    show (emP f l k ++ putS (l.getD k 0) 1).size ≤ _
    rw [ByteArray.size_append]
    omega
theorem getD_at (l : List Int) (k : Nat) (hk : k < l.length) : l.getD k 0 = l[k] := by rw [List.getD_eq_getElem?_getD, List.getElem?_eq_getElem hk]; rfl
theorem emP_succ (f : Int) (l : List Int) (k : Nat) (hk : k < l.length) : emP f l (k + 1) = emP f l k ++ putS l[k] 1 := by rw [← getD_at l k hk]; rfl
theorem emT_size (f : Int) (l : List Int) : (emT f l).size ≤ 84 := by
  by_cases h : EmOk f l
  · rw [emT_yes h]
    have := emP_size f l l.length
    have := h.2.1
    omega
  · rw [emT_no h]
    exact Nat.zero_le _

set_option maxRecDepth 20000 in
set_option maxHeartbeats 2000000 in
theorem em_impl (f : Int) (A : Option Addr) (l : List Int) (c : Nat) (hl : l.length ≤ 1100000) (w : World) (h : LsI 1 w w.heap.size A (l.map inC)) :
    Calls Try.prog 17 #[.int .i64 f, .slice A l.length c] w fun e w' => e = .returned (.string (emT f l)) ∧ Below w.heap.size w w' := by
  have HF := Lib.hid (fl_impl f)
  have HW := Lib.hid (am_impl A l c 0 24 (by omega) w h)
  have HI := Lib.hid (fun W (hb : Below w.heap.size w W) (h0 : 0 < l.length) => inCellsI (h.full hb) h0)
  have HP := Lib.hid (fun x W => put_impl x 1 W)
  have HN := Lib.hid (fun (g : ¬ EmOk f l) => emT_no g)
  have HY := Lib.hid (fun (g1 : 0 ≤ f ∧ f ≤ 7) (g2 : l.length ≤ 20) (g3 : Amid l 0 24) => emT_yes (f := f) (l := l) ⟨g1, g2, g3⟩)
  clear h
  by_cases g1 : 0 ≤ f ∧ f ≤ 7
  · rw [decide_eq_true g1] at HF
    by_cases g2 : l.length ≤ 20
    · have d1 : decide ((20 : Int) < (l.length : Int)) = false := by simp; omega
      have d2 : decide (20 < l.length) = false := by simp; omega
      by_cases g3 : Amid l 0 24
      · rw [amidB_yes g3] at HW
        have HV := Lib.hid (HY.out g1 g2 g3)
        clear HN HY g1 g3
        have zf := putS_four_le f 1
        go_enter Try.func17, Try.ntmps17
        go_wp2_with fail
        refine (HF.out _).mono ?_
        rintro e w' ⟨rfl, rfl⟩
        go_wp2_with fail
        refine (HW.out).mono ?_
        rintro e w' ⟨rfl, rfl⟩
        go_wp2_with fail
        refine (HP.out _ _).mono ?_
        rintro e w1 ⟨rfl, hb1⟩
        have B1 := Lib.hid hb1
        clear hb1 zf
        go_wp2
        go_loopg [5, 25] l.length (fun gh s v wx => ∃ k : Nat, k ≤ l.length ∧ gh = l.length - k ∧ v = .int .i64 (k : Int) ∧ s = .string (emP f l k) ∧ Below w.heap.size w wx)
        case atStart => exact ⟨0, by omega, rfl, rfl, rfl, B1.out⟩
        case round =>
          obtain ⟨k, hk, rfl, rfl, rfl, hb⟩ := hrel
          have BB := Lib.hid hb
          clear hb
          by_cases hlt : k < l.length
          · have hd : decide (k < l.length) = true := by simp; omega
            have hd' : decide ((k : Int) < (l.length : Int)) = true := by simp; omega
            obtain ⟨bb, off, rfl, hbb, hc⟩ := HI.out _ BB.out (by omega)
            have hck := hc k hlt
            have HE := Lib.hid (emP_succ f l k hlt)
            have z1 := emP_size f l k
            have z2 := putS_four_le l[k] 1
            clear hc
            have H2 := Lib.hid (HP.out l[k])
            generalize l[k] = x at *
            generalize emP f l k = S at *
            have b1 : ¬ 9223372036854775807 < S.size + (putS x 1).size := by omega
            generalize putS x 1 = X at *
            go_wp2_with fail
            refine (H2.out _).mono ?_
            rintro e w2 ⟨rfl, hb2⟩
            have B2 := Lib.hid (BB.out.trans (hb2.mono BB.out.size))
            clear hb2
            go_wp2
            go_roundg (l.length - (k + 1))
            case measure => omega
            case rel => exact ⟨k + 1, by omega, rfl, by go_num, by rw [HE.out], B2.out⟩
          · have hd : decide (k < l.length) = false := by simp; omega
            have hd' : decide ((k : Int) < (l.length : Int)) = false := by simp; omega
            have HK := Lib.hid (show emP f l k = emP f l l.length by congr 1; omega)
            clear hlt
            generalize emP f l k = S at *
            go_wp2
            go_ret
            exact ⟨by rw [HV.out, ← HK.out]; rfl, BB.out⟩
      · rw [amidB_no g3] at HW
        have HV := Lib.hid (HN.out (fun g => g3 g.2.2))
        clear HN HY g1 g3
        go_enter Try.func17, Try.ntmps17
        go_wp2_with fail
        refine (HF.out _).mono ?_
        rintro e w' ⟨rfl, rfl⟩
        go_wp2_with fail
        refine (HW.out).mono ?_
        rintro e w' ⟨rfl, rfl⟩
        go_wp2
        go_ret
        exact ⟨by rw [HV.out]; rfl, Below.refl _ _⟩
    · have d1 : decide ((20 : Int) < (l.length : Int)) = true := by simp; omega
      have d2 : decide (20 < l.length) = true := by simp; omega
      have HV := Lib.hid (HN.out (fun g => g2 g.2.1))
      clear HN HY g1 g2
      go_enter Try.func17, Try.ntmps17
      go_wp2_with fail
      refine (HF.out _).mono ?_
      rintro e w' ⟨rfl, rfl⟩
      go_wp2
      go_ret
      exact ⟨by rw [HV.out]; rfl, Below.refl _ _⟩
  · rw [decide_eq_false g1] at HF
    have HV := Lib.hid (HN.out (fun g => g1 g.1))
    clear HN HY g1
    go_enter Try.func17, Try.ntmps17
    go_wp2_with fail
    refine (HF.out _).mono ?_
    rintro e w' ⟨rfl, rfl⟩
    go_wp2
    go_ret
    exact ⟨by rw [HV.out]; rfl, Below.refl _ _⟩

end Go.Proofs.Ytjcdekonidekcad
