/- What this text proves: the model's text of a number is the program's: the digits of its size, the highest first, behind a '-' where it is negative. -/
import Derived.Test.YtkgpjfemlgocoaaDoorTab
import Derived.Test.YtkgpjfemlgocoaaDoorHexe
import Derived.Lib.ItoaLen
namespace Go.Proofs.YtkgpjfemlgocoaaDoor
open Go.ChangeShapes Go.WideShapes Go.ChangeAt Go.RowKit
set_option linter.unusedVariables false

/-- What is left to write, ahead of what is written. -/
def leftB (u : Nat) (t : List UInt8) : List UInt8 := if u = 0 then t else Lib.decDigits u ++ t
theorem leftB_step {u : Nat} (h : u ≠ 0) (t : List UInt8) : leftB (u / 10) (figB (u % 10) :: t) = leftB u t := by
  have ef : figB (u % 10) = UInt8.ofNat (48 + u % 10) := by unfold figB; rw [if_pos (by omega)]
  have ed : Lib.decDigits u = if h : u < 10 then [UInt8.ofNat (48 + u)] else Lib.decDigits (u / 10) ++ [UInt8.ofNat (48 + u % 10)] := by rw [Lib.decDigits]
  unfold leftB
  rw [if_neg h, ed, ef]
  by_cases h10 : u < 10
  · rw [if_pos (by omega), dif_pos h10, show u % 10 = u by omega]; rfl
  · rw [if_neg (by omega), dif_neg h10]; simp
theorem fmtB_zero : fmtB 0 = ⟨#[48]⟩ := by
  unfold fmtB Lib.itoa
  rw [if_neg (by omega), show (0 : Int).toNat = 0 from rfl, Lib.decDigits_one (by omega)]
  rfl
theorem cat_bytes (a b : List UInt8) : (⟨a.toArray⟩ : ByteArray) ++ ⟨b.toArray⟩ = ⟨(a ++ b).toArray⟩ := by
  rw [ByteArray.mk_append_mk]
/-- One byte, made a text. -/
theorem conv_one (W : World) (b : UInt8) : (convert 27 9 (.slice (some ⟨W.heap.size, 0, none⟩) 1 1)).run Tryd.prog (W.alloc (.cells #[.int .u8 (b.toNat : Int)] 5)) = .ok (.string ⟨#[b]⟩) (W.alloc (.cells #[.int .u8 (b.toNat : Int)] 5)) := by
  refine run_convert_bytes_back _ 27 9 5 ⟨W.heap.size, 0, none⟩ 1 [b] Tryd.underlying27 Tryd.underlying5 Tryd.underlying9 fun j hj => ?_
  obtain rfl : j = 0 := by simp at hj; omega
  have hg : (W.alloc (.cells #[.int .u8 (b.toNat : Int)] 5)).heap[W.heap.size]? = some (.cells #[.int .u8 (b.toNat : Int)] 5 (0, 0)) := by
    show (W.heap.push _)[W.heap.size]? = _
    simp
  exact cell_of_row _ _ 0 _ _ _ hg
/-- A number of a sign and a size. -/
def sgn (b : Bool) (u : Nat) : Int := if b then -(u : Int) else (u : Int)
theorem fmtB_sgn (b : Bool) (u : Nat) (hu : u ≠ 0) : fmtB (sgn b u) = ⟨((if b then [45] else []) ++ leftB u []).toArray⟩ := by
  unfold fmtB Lib.itoa sgn leftB
  cases b
  · simp [hu]
  · simp [hu]
theorem sgn_of (n : Int) : n = sgn (decide (n < 0)) n.natAbs := by
  unfold sgn
  split <;> rename_i h <;> simp at h <;> omega
theorem sgn_mod (b : Bool) (u : Nat) : (sgn b u).tmod 10 = sgn b (u % 10) := by
  cases b
  · exact (Int.ofNat_tmod u 10).symm
  · show (-(u : Int)).tmod 10 = -((u % 10 : Nat) : Int)
    rw [Int.neg_tmod]
    exact congrArg _ (Int.ofNat_tmod u 10).symm
theorem sgn_div (b : Bool) (u : Nat) : (sgn b u).tdiv 10 = sgn b (u / 10) := by
  cases b
  · exact (Int.ofNat_tdiv u 10).symm
  · show (-(u : Int)).tdiv 10 = -((u / 10 : Nat) : Int)
    rw [Int.neg_tdiv]
    exact congrArg _ (Int.ofNat_tdiv u 10).symm
theorem sgn_in (b : Bool) (u : Nat) (h : (-9223372036854775808 ≤ sgn b u ∧ sgn b u ≤ 9223372036854775807)) (v : Nat) (hv : v ≤ u) : IntKind.i64.wrap (sgn b v) = sgn b v := by
  refine IntWalk.i64_in _ ?_
  unfold sgn at *
  cases b <;> simp at * <;> omega

theorem leftB_len (b : Bool) (u : Nat) (hu : u ≠ 0) (h0 : -9223372036854775808 ≤ sgn b u) (h1 : sgn b u ≤ 9223372036854775807) : (leftB u []).length ≤ 21 := by
  have h := Lib.itoa_length_le (sgn b u) h0 h1
  have e := congrArg ByteArray.size (fmtB_sgn b u hu)
  simp [fmtB, ByteArray.size] at e
  omega
theorem leftB_ge (v : Nat) (t : List UInt8) : t.length ≤ (leftB v t).length := by
  unfold leftB
  split <;> simp

set_option maxHeartbeats 4000000 in
theorem format_spec (n : Int) (h0 : -9223372036854775808 ≤ n) (h1 : n ≤ 9223372036854775807) (w : World) :
    Calls Tryd.prog 8 #[.int .i64 n] w fun e w' => e = .returned (.string (fmtB n)) ∧ Below w.heap.size w w' := by
  by_cases hz : n = 0
  · subst hz
    go_enter Tryd.func8, Tryd.ntmps8
    go_wp2
    go_ret
    exact ⟨by rw [fmtB_zero]; rfl, Below.refl _ _⟩
  · obtain ⟨b, u, hu0, rfl⟩ : ∃ b u, u ≠ 0 ∧ n = sgn b u := ⟨_, _, by omega, sgn_of n⟩
    have hd0 : (sgn b u == 0) = false := by simp; omega
    go_enter Tryd.func8, Tryd.ntmps8
    go_wp2
    go_loopw [0, 4] (fun vn vs wr => ∃ (v : Nat) (t : List UInt8), v ≤ u ∧ vn = .int .i64 (sgn b v) ∧ vs = .string ⟨t.toArray⟩ ∧ leftB v t = leftB u [] ∧ Below w.heap.size w wr) (fun vn _ _ => (intOf vn).natAbs)
    case atStart => exact ⟨u, [], by omega, rfl, rfl, rfl, Below.refl _ _⟩
    case round =>
      obtain ⟨v, t, hv, rfl, rfl, hl, hbel⟩ := hrel
      have hw0 : IntKind.i64.wrap (sgn b v) = sgn b v := sgn_in b u ⟨h0, h1⟩ v hv
      by_cases hv0 : v = 0
      · subst hv0
        have HL := Lib.hid (leftB_len b u hu0 h0 h1)
        have hf := fmtB_sgn b u hu0
        have hd : (sgn b 0 != 0) = false := by cases b <;> rfl
        have ht : t = leftB u [] := hl
        have hbel2 := Lib.hid hbel
        clear hl hbel
        subst ht
        generalize leftB u [] = T at *
        cases b
        · have hdn : decide (sgn false u < 0) = false := by simp [sgn]
          go_wp2
          go_ret
          exact ⟨by rw [hf]; rfl, hbel2.out⟩
        · have HN := Lib.hid (show sgn true u < 0 by simp [sgn]; omega)
          have HF := Lib.hid hf
          clear hf
          go_wp2
          · have := HL.out
            omega
          · go_ret
            exact ⟨by rw [HF.out]; exact congrArg (fun x => Ending.returned (.string x)) (cat_bytes [45] T), hbel2.out⟩
          · have := HN.out
            omega
      · have hd : (sgn b v != 0) = true := by cases b <;> simp [sgn] <;> omega
        have hw1 : (sgn b v).tmod 10 = sgn b (v % 10) := sgn_mod b v
        have hw2 : IntKind.i64.wrap (sgn b (v % 10)) = sgn b (v % 10) := sgn_in b u ⟨h0, h1⟩ _ (by omega)
        have hw3 : (sgn b v).tdiv 10 = sgn b (v / 10) := sgn_div b v
        have hw4 : IntKind.i64.wrap (sgn b (v / 10)) = sgn b (v / 10) := sgn_in b u ⟨h0, h1⟩ _ (by omega)
        have hw5 : IntKind.i64.wrap (-(sgn b (v % 10))) = -(sgn b (v % 10)) := by
          refine IntWalk.i64_in _ ?_
          cases b <;> simp [sgn] <;> omega
        have HL := Lib.hid hl
        have HB := Lib.hid hbel
        have HT := Lib.hid (show t.length ≤ 21 by
          have e1 := leftB_ge v t
          have e2 := leftB_len b u hu0 h0 h1
          rw [hl] at e1
          omega)
        clear hl hbel
        have c1 : ∀ W : World, Calls Tryd.prog 21 #[.int .i64 ((v : Int) % 10)] W fun e w' => e = .returned (.int .u8 ((figB (v % 10)).toNat : Int)) ∧ W = w' := fun W => by
          rw [show (v : Int) % 10 = ((v % 10 : Nat) : Int) from by omega]
          exact figure_any _ (by omega) W
        have C1 := Lib.hid c1
        clear c1
        have hcv := conv_one wr (figB (v % 10))
        by_cases hneg : sgn b (v % 10) < 0
        · have hd2 : decide (sgn b (v % 10) < 0) = true := by simp; exact hneg
          have he : -(sgn b (v % 10)) = ((v % 10 : Nat) : Int) := by cases b <;> simp [sgn] at * <;> omega
          go_wp2_with fail
          refine (C1.out _).mono ?_
          rintro e w1 ⟨rfl, rfl⟩
          go_wp2
          case isTrue => have := HT.out; omega
          case roundEnd => exact ⟨⟨v / 10, figB (v % 10) :: t, by omega, rfl, congrArg Value.string (cat_bytes [figB (v % 10)] t), (leftB_step hv0 t).trans HL.out, HB.out.alloc HB.out.size _⟩, by cases b <;> simp [intOf, sgn] <;> omega⟩
        · have hd2 : decide (sgn b (v % 10) < 0) = false := by simp; omega
          have he : sgn b (v % 10) = ((v % 10 : Nat) : Int) := by cases b <;> simp [sgn] at * <;> omega
          rw [he] at hw1 hw2 hd2
          clear hw5 hneg he
          go_wp2_with fail
          refine (C1.out _).mono ?_
          rintro e w1 ⟨rfl, rfl⟩
          go_wp2
          case isTrue => have := HT.out; omega
          case roundEnd => exact ⟨⟨v / 10, figB (v % 10) :: t, by omega, rfl, congrArg Value.string (cat_bytes [figB (v % 10)] t), (leftB_step hv0 t).trans HL.out, HB.out.alloc HB.out.size _⟩, by cases b <;> simp [intOf, sgn] <;> omega⟩
end Go.Proofs.YtkgpjfemlgocoaaDoor
