/- What this text proves: the parts InT, Emi, Tch of the proof, each under its own words. -/
import Derived.Test.YtckofkdeedbbgaaV12
import Derived.Test.YtckofkdeedbbgaaV13
import Derived.Test.YtckofkdeedbbgaaV04
import Derived.Test.YtckofkdeedbbgaaV06
import Derived.Laws.Concat
import Derived.Deep.LoopGhost
import Derived.Test.YtckofkdeedbbgaaV11
import Derived.Test.YtckofkdeedbbgaaV10
/- What this text proves: the contracts of the laws' own functions over a list of numbers that was handed to them: its size, its copy. -/
namespace Go.Proofs.Ytckofkdeedbbgaa
open Go.ChangeShapes Go.WideShapes Go.ChangeAt Go.RowKit
set_option linter.unusedVariables false


theorem LsI.ints {w : World} {B : Nat} {A : Option Addr} {l : List Int} (h : LsI 1 w B A (l.map inC)) : IntsAt w B A l := by
  rcases Nat.eq_zero_or_pos l.length with h0 | h0
  · exact .inl h0
  · exact .inr (inCellsI h h0)
theorem to_ins (A : Option Addr) (l : List Int) (c : Nat) (hl : l.length ≤ 1048576) (w : World) (h : LsI 1 w w.heap.size A (l.map inC)) :
    Calls Try.prog 102 #[.slice A l.length c] w fun e w' => ∃ v, e = .returned v ∧ OwnIn w' w.heap.size v l ∧ Below w.heap.size w w' :=
  (toI_any A l c hl w h.ints).mono fun e w' ⟨v, h1, h2, h3⟩ => ⟨v, h1, h2.toO, h3⟩
end Go.Proofs.Ytckofkdeedbbgaa
/- What this text proves: the contracts of the program's areWithin, and of EncodeMissing, of the program and the model; its law. -/
namespace Go.Proofs.Ytckofkdeedbbgaa
open Go.ChangeShapes Go.WideShapes Go.ChangeAt Go.RowKit
set_option linter.unusedVariables false

/-- All numbers lie between two. -/
def Amid (d : List Int) (a b : Int) : Prop := ∀ k (hk : k < d.length), a ≤ d[k] ∧ d[k] ≤ b
noncomputable def amidB (d : List Int) (a b : Int) : Bool := @decide (Amid d a b) (Classical.propDecidable _)
theorem amidB_yes {d : List Int} {a b : Int} (h : Amid d a b) : amidB d a b = true := by unfold amidB; exact @decide_eq_true _ (Classical.propDecidable _) h
theorem amidB_no {d : List Int} {a b : Int} (h : ¬ Amid d a b) : amidB d a b = false := by unfold amidB; exact @decide_eq_false _ (Classical.propDecidable _) h

set_option maxHeartbeats 1000000 in
theorem am_impl (A : Option Addr) (d : List Int) (c : Nat) (a b : Int) (hl : d.length ≤ 2000000) (w : World) (h : LsI 1 w w.heap.size A (d.map inC)) :
    Calls Try.prog 62 #[.slice A d.length c, .int .i64 a, .int .i64 b] w fun e w' => e = .returned (.bool (amidB d a b)) ∧ w = w' := by
  have HI := Lib.hid h
  have HW := Lib.hid (fun x W => iw_any x a b W)
  have HN := Lib.hid (fun k (hk : k < d.length) (h : ¬ (a ≤ d[k] ∧ d[k] ≤ b)) => amidB_no (d := d) (a := a) (b := b) (fun hw => h (hw k hk)))
  have HY := Lib.hid (fun (h : ∀ k (hk : k < d.length), a ≤ d[k] ∧ d[k] ≤ b) => amidB_yes h)
  clear h
  go_enter Try.func62, Try.ntmps62
  go_wp2
  go_loopg [11] d.length (fun gh v wx => ∃ k : Nat, k ≤ d.length ∧ gh = d.length - k ∧ v = .int .i64 (k : Int) ∧ (∀ j (hj : j < d.length), j < k → a ≤ d[j] ∧ d[j] ≤ b) ∧ w = wx)
  case atStart => exact ⟨0, by omega, rfl, rfl, fun j _ h => absurd h (Nat.not_lt_zero _), rfl⟩
  case round =>
    obtain ⟨k, hk, rfl, rfl, hall, rfl⟩ := hrel
    have HA := Lib.hid hall
    clear hall
    by_cases hlt : k < d.length
    · have hd : decide (k < d.length) = true := by simp; omega
      have hd' : decide ((k : Int) < (d.length : Int)) = true := by simp; omega
      obtain ⟨bb, off, rfl, hb, hc⟩ := inCellsI HI.out (by omega)
      have hck := hc k hlt
      clear hc
      by_cases hin : a ≤ d[k] ∧ d[k] ≤ b
      · have H1 := HW.out d[k]
        rw [decide_eq_true hin] at H1
        have HA2 := Lib.hid (show ∀ j (hj : j < d.length), j < k + 1 → a ≤ d[j] ∧ d[j] ≤ b from fun j hj hjk => by
          rcases Nat.lt_or_ge j k with h3 | h3
          · exact HA.out j hj h3
          · obtain rfl : j = k := by omega
            exact hin)
        have H1 := Lib.hid H1
        generalize d[k] = x at *
        clear hin
        go_wp2_with fail
        refine (H1.out _).mono ?_
        rintro e w' ⟨rfl, rfl⟩
        go_wp2
        go_roundg (d.length - (k + 1))
        case measure => omega
        case rel => exact ⟨k + 1, by omega, rfl, by go_num, HA2.out, rfl⟩
      · have H1 := HW.out d[k]
        rw [decide_eq_false hin] at H1
        have HV := Lib.hid (HN.out k hlt hin)
        have H1 := Lib.hid H1
        generalize d[k] = x at *
        clear hin
        go_wp2_with fail
        refine (H1.out _).mono ?_
        rintro e w' ⟨rfl, rfl⟩
        go_wp2
        go_ret
        exact ⟨by rw [HV.out]; rfl, rfl⟩
    · have hd : decide (k < d.length) = false := by simp; omega
      have hd' : decide ((k : Int) < (d.length : Int)) = false := by simp; omega
      have HV := Lib.hid (HY.out (fun j hj => HA.out j hj (by omega)))
      clear hlt
      go_wp2
      go_ret
      exact ⟨by rw [HV.out]; rfl, rfl⟩


def EmOk (f : Int) (l : List Int) : Prop := (0 ≤ f ∧ f ≤ 7) ∧ l.length ≤ 20 ∧ Amid l 0 24
/-- The file and the first k numbers, a byte each. -/
noncomputable def emP (f : Int) (l : List Int) : Nat → ByteArray
  | 0 => putS f 1
  | k + 1 => emP f l k ++ putS (l.getD k 0) 1
/-- What EncodeMissing returns. -/
noncomputable def emT (f : Int) (l : List Int) : ByteArray := open Classical in if EmOk f l then emP f l l.length else ⟨#[]⟩
theorem emT_yes {f : Int} {l : List Int} (h : EmOk f l) : emT f l = emP f l l.length := by unfold emT; exact if_pos h
theorem emT_no {f : Int} {l : List Int} (h : ¬ EmOk f l) : emT f l = ⟨#[]⟩ := by unfold emT; exact if_neg h
theorem emP_size (f : Int) (l : List Int) (k : Nat) : (emP f l k).size ≤ 4 + 4 * k := by
  induction k with
  | zero => exact putS_four_le f 1
  | succ k ih =>
    have := putS_four_le (l.getD k 0) 1
    show (emP f l k ++ putS (l.getD k 0) 1).size ≤ _
    rw [ByteArray.size_append]
    omega
theorem getD_at (l : List Int) (k : Nat) (hk : k < l.length) : l.getD k 0 = l[k] := by rw [List.getD_eq_getElem?_getD, List.getElem?_eq_getElem hk]; rfl
theorem emP_succ (f : Int) (l : List Int) (k : Nat) (hk : k < l.length) : emP f l (k + 1) = emP f l k ++ putS l[k] 1 := by rw [← getD_at l k hk]; rfl
theorem emT_size (f : Int) (l : List Int) : (emT f l).size ≤ 84 := by
  by_cases h : EmOk f l
  · rw [emT_yes h]
    have := emP_size f l l.length
    have := h.2.1
    omega
  · rw [emT_no h]
    exact Nat.zero_le _

end Go.Proofs.Ytckofkdeedbbgaa
/- What this text proves: a call that changes only some blocks: what stays. -/
namespace Go.Proofs.Ytckofkdeedbbgaa
open Go.ChangeShapes Go.WideShapes Go.ChangeAt Go.RowKit
set_option linter.unusedVariables false

/-- Only blocks of S, and new ones, have changed. -/
structure Touch (w w' : World) (S : Nat → Prop) : Prop where
  os : w'.os = w.os
  tape : w'.tape = w.tape
  output : w'.output = w.output
  size : w.heap.size ≤ w'.heap.size
  block : ∀ k, k < w.heap.size → ¬ S k → w'.heap[k]? = w.heap[k]?
theorem Touch.refl (w : World) (S : Nat → Prop) : Touch w w S := ⟨rfl, rfl, rfl, Nat.le_refl _, fun _ _ _ => rfl⟩
theorem Touch.of_grown {w w' : World} {row : Option Nat} (h : w.grownBy w' row) : Touch w w' (fun k => row = some k) := ⟨h.os, h.tape, h.output, h.size, fun k hk hn => h.block k hk (fun e => hn e.symm)⟩
theorem Touch.of_below {w w' : World} (h : Below w.heap.size w w') (S : Nat → Prop) : Touch w w' S := ⟨h.os, h.tape, h.output, h.size, fun k hk _ => h.block k hk⟩
theorem Touch.mono {w w' : World} {S T : Nat → Prop} (h : Touch w w' S) (hs : ∀ k, S k → T k) : Touch w w' T := ⟨h.os, h.tape, h.output, h.size, fun k hk hn => h.block k hk (fun e => hn (hs k e))⟩
theorem Touch.trans {w w' w'' : World} {S : Nat → Prop} (h : Touch w w' S) (h2 : Touch w' w'' S) : Touch w w'' S :=
  ⟨h2.os.trans h.os, h2.tape.trans h.tape, h2.output.trans h.output, Nat.le_trans h.size h2.size, fun k hk hn => (h2.block k (Nat.lt_of_lt_of_le hk h.size) hn).trans (h.block k hk hn)⟩
theorem Touch.below {w w' : World} {S : Nat → Prop} {B : Nat} (h : Touch w w' S) (hB : ∀ k, S k → B ≤ k) (hz : B ≤ w.heap.size) : Below B w w' :=
  ⟨h.os, h.tape, h.output, h.size, fun k hk => h.block k (Nat.lt_of_lt_of_le hk hz) (fun e => by have := hB k e; omega)⟩
theorem LsO.touch {n : Nat} {w w' : World} {base : Nat} {v : Value} {l : List (List Value)} {S : Nat → Prop} (h : LsO n w base v l) (ht : Touch w w' S) (hne : ∀ k, v.ownBlock = some k → ¬ S k) : LsO n w' base v l :=
  h.keep ht.size fun g hv j => by
    have hb : w'.heap[g]? = w.heap[g]? := ht.block g (h.up g hv).2 (hne g hv)
    exact ⟨by simp [World.cell?, hb], by simp [World.frozen?, hb]⟩
theorem Box.touch {w w' : World} {g : Nat} {vs : List Value} {S : Nat → Prop} (h : Box w g vs) (ht : Touch w w' S) (hne : ¬ S g) : Box w' g vs := by
  have hb : w'.heap[g]? = w.heap[g]? := ht.block g h.lt hne
  exact ⟨Nat.lt_of_lt_of_le h.lt ht.size, fun j hj => by rw [← h.cell j hj]; simp [World.cell?, hb], fun j => by rw [← h.ice j]; simp [World.frozen?, hb]⟩
end Go.Proofs.Ytckofkdeedbbgaa
