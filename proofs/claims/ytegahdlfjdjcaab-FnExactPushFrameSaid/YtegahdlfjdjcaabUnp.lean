/- What this text proves: the contracts of the laws' own functions over unpackers, and of the model's UnpackerOk, NewUnpacker and of what it does with a loss. -/
import Derived.Test.YtegahdlfjdjcaabBox
import Derived.Test.YtegahdlfjdjcaabRand
import Derived.Test.YtegahdlfjdjcaabEmp
namespace Go.Proofs.Ytegahdlfjdjcaab
open Go.ChangeShapes Go.WideShapes Go.ChangeAt Go.RowKit
set_option linter.unusedVariables false

/-- An unpacker as a value. -/
abbrev unV (c n : Int) (b : Bool) (r : ByteArray) (l : Int) : Value := .agg #[.int .i64 c, .int .i64 n, .bool b, .string r, .int .i64 l]
abbrev unL (c n : Int) (b : Bool) (r : ByteArray) (l : Int) : List Value := [.int .i64 c, .int .i64 n, .bool b, .string r, .int .i64 l]
def UpOk (c n : Int) (b : Bool) (r : ByteArray) (l : Int) : Prop := (0 ≤ c ∧ c ≤ 2) ∧ (-1 ≤ n ∧ n ≤ 255) ∧ (0 ≤ l ∧ l ≤ 1000000) ∧ (b = true ∨ r.size = 0) ∧ r.size ≤ 43
instance (c n : Int) (b : Bool) (r : ByteArray) (l : Int) : Decidable (UpOk c n b r l) := by unfold UpOk; infer_instance
abbrev Cells5 (W : World) (g : Nat) (x y z u v : Value) : Prop := W.cell? ⟨g, 0, none⟩ = some x ∧ W.cell? ⟨g, 1, none⟩ = some y ∧ W.cell? ⟨g, 2, none⟩ = some z ∧ W.cell? ⟨g, 3, none⟩ = some u ∧ W.cell? ⟨g, 4, none⟩ = some v
theorem Box.five {W : World} {g : Nat} {x y z u v : Value} (h : Box W g [x, y, z, u, v]) : Cells5 W g x y z u v := ⟨h.cell 0 (by simp), h.cell 1 (by simp), h.cell 2 (by simp), h.cell 3 (by simp), h.cell 4 (by simp)⟩

theorem sz_unp (c n : Int) (b : Bool) (r : ByteArray) (l : Int) (L : Nat) (hL : L ≤ 1048576) (hd : r.size ≤ maxLen) (w : World) :
    Calls Try.prog 22 #[unV c n b r l, .int .i64 (L : Int)] w fun e w' => e = .returned (.int .i64 (if r.size ≤ L then (L : Int) - (r.size : Int) else -1)) ∧ Below w.heap.size w w' := by
  have hd' : r.size ≤ 9223372036854775807 := by unfold maxLen at hd; omega
  by_cases h : r.size ≤ L
  · rw [if_pos h]
    have hd0 : decide ((L : Int) - (r.size : Int) < 0) = false := by simp; omega
    go_enter Try.func22, Try.ntmps22
    go_wp2
    go_ret
    exact ⟨rfl, (Below.refl _ w).alloc (Nat.le_refl _) _⟩
  · rw [if_neg h]
    have hd0 : decide ((L : Int) - (r.size : Int) < 0) = true := by simp; omega
    go_enter Try.func22, Try.ntmps22
    go_wp2
    go_ret
    exact ⟨rfl, (Below.refl _ w).alloc (Nat.le_refl _) _⟩
theorem to_unp (c n : Int) (b : Bool) (r : ByteArray) (l : Int) (w : World) :
    Calls Try.prog 24 #[unV c n b r l] w fun e w' => e = .returned (unV c n b r l) ∧ Below w.heap.size w w' := by
  go_enter Try.func24, Try.ntmps24
  go_wp2
  refine bodyPost_ret (v := unV c n b r l) (by simp [results, Try.results24, go_sem]) rfl ⟨rfl, (((Below.refl _ w).alloc (Nat.le_refl _) _).alloc (by simp) _).alloc (by simp; omega) _⟩
theorem eq_unp (c n : Int) (b : Bool) (r : ByteArray) (l : Int) (w : World) :
    Calls Try.prog 28 #[unV c n b r l, unV c n b r l] w fun e w' => e = .returned (.bool true) ∧ Below w.heap.size w w' := by
  have hself : (r.toList == r.toList) = true := beq_self_eq_true _
  go_enter Try.func28, Try.ntmps28
  go_wp2
  go_ret
  exact ⟨rfl, ((Below.refl _ w).alloc (Nat.le_refl _) _).alloc (by simp) _⟩
theorem new_unp (c : Int) (w : World) :
    Calls Try.prog 26 #[.int .i64 c] w fun e w' => e = .returned (unV c (-1) false ⟨#[]⟩ 0) ∧ Below w.heap.size w w' := by
  go_enter Try.func26, Try.ntmps26
  go_wp2
  refine bodyPost_ret (v := unV c (-1) false ⟨#[]⟩ 0) (by simp [results, Try.results26, go_sem]) rfl ⟨rfl, (Below.refl _ w).alloc (Nat.le_refl _) _⟩
/-- One loss more, of a million at most. -/
def lossN (l : Int) : Int := if l + 1 ≤ 1000000 then l + 1 else 1000000
theorem lose_spec (c n : Int) (b : Bool) (r : ByteArray) (l : Int) (hl : 0 ≤ l ∧ l ≤ 1000000) (w : World) :
    Calls Try.prog 56 #[unV c n b r l] w fun e w' => e = .returned (unV c n false ⟨#[]⟩ (lossN l)) ∧ Below w.heap.size w w' := by
  by_cases h : l + 1 ≤ 1000000
  · have HV := Lib.hid (show lossN l = l + 1 from if_pos h)
    have hmin : min (l + 1) 1000000 = l + 1 := Int.min_eq_left h
    go_enter Try.func56, Try.ntmps56
    go_wp2
    refine bodyPost_ret (v := unV c n false ⟨#[]⟩ (l + 1)) (by simp [results, Try.results56, go_sem]) rfl ⟨by rw [HV.out], ((Below.refl _ w).alloc (Nat.le_refl _) _).alloc (by simp) _⟩
  · have HV := Lib.hid (show lossN l = 1000000 from if_neg h)
    have hmin : min (l + 1) 1000000 = 1000000 := Int.min_eq_right (by omega)
    go_enter Try.func56, Try.ntmps56
    go_wp2
    refine bodyPost_ret (v := unV c n false ⟨#[]⟩ 1000000) (by simp [results, Try.results56, go_sem]) rfl ⟨by rw [HV.out], ((Below.refl _ w).alloc (Nat.le_refl _) _).alloc (by simp) _⟩

set_option maxHeartbeats 1000000 in
theorem up_spec (c n : Int) (b : Bool) (r : ByteArray) (l : Int) (w : World) :
    Calls Try.prog 23 #[unV c n b r l] w fun e w' => e = .returned (.bool (decide (UpOk c n b r l))) ∧ Below w.heap.size w w' := by
  have HO := Lib.hid (show ∀ B : Bool, (B = (decide (0 ≤ c ∧ c ≤ 2) && (decide (-1 ≤ n ∧ n ≤ 255) && (decide (0 ≤ l ∧ l ≤ 1000000) && ((b || decide (r.size = 0)) && decide (r.size ≤ 43)))))) → B = decide (UpOk c n b r l) from fun B h => by
    rw [h, Bool.eq_iff_iff]
    simp only [Bool.and_eq_true, Bool.or_eq_true, decide_eq_true_iff]
    exact Iff.rfl)
  have hcast : decide ((r.size : Int) ≤ 43) = decide (r.size ≤ 43) := by rw [decide_eq_decide]; omega
  by_cases h1 : 0 ≤ c ∧ c ≤ 2
  · have e1 := Lib.hid (decide_eq_true h1)
    have H1 := Lib.hid (in_yes c 0 2 h1.1 h1.2)
    by_cases h2 : -1 ≤ n ∧ n ≤ 255
    · have e2 := Lib.hid (decide_eq_true h2)
      have H2 := Lib.hid (in_yes n (-1) 255 h2.1 h2.2)
      by_cases h3 : 0 ≤ l ∧ l ≤ 1000000
      · have e3 := Lib.hid (decide_eq_true h3)
        have H3 := Lib.hid (in_yes l 0 1000000 h3.1 h3.2)
        cases b with
        | true =>
          go_enter Try.func23, Try.ntmps23
          go_wp2_with fail
          refine (H1.out _).mono ?_
          rintro e w' ⟨rfl, rfl⟩
          go_wp2_with fail
          refine (H2.out _).mono ?_
          rintro e w' ⟨rfl, rfl⟩
          go_wp2_with fail
          refine (H3.out _).mono ?_
          rintro e w' ⟨rfl, rfl⟩
          go_wp2
          go_ret
          exact ⟨by rw [← HO.out _ rfl, e1.out, e2.out, e3.out]; simp, (Below.refl _ w).alloc (Nat.le_refl _) _⟩
        | false =>
          by_cases h4 : r.size = 0
          · have e4 := Lib.hid (decide_eq_true h4)
            have d4 := text_none r h4
            clear h4
            go_enter Try.func23, Try.ntmps23
            go_wp2_with fail
            refine (H1.out _).mono ?_
            rintro e w' ⟨rfl, rfl⟩
            go_wp2_with fail
            refine (H2.out _).mono ?_
            rintro e w' ⟨rfl, rfl⟩
            go_wp2_with fail
            refine (H3.out _).mono ?_
            rintro e w' ⟨rfl, rfl⟩
            go_wp2
            go_ret
            exact ⟨by rw [← HO.out _ rfl, e1.out, e2.out, e3.out, e4.out]; simp, (Below.refl _ w).alloc (Nat.le_refl _) _⟩
          · have e4 := Lib.hid (decide_eq_false h4)
            have d4 := text_full r (by omega)
            clear h4
            go_enter Try.func23, Try.ntmps23
            go_wp2_with fail
            refine (H1.out _).mono ?_
            rintro e w' ⟨rfl, rfl⟩
            go_wp2_with fail
            refine (H2.out _).mono ?_
            rintro e w' ⟨rfl, rfl⟩
            go_wp2_with fail
            refine (H3.out _).mono ?_
            rintro e w' ⟨rfl, rfl⟩
            go_wp2
            go_ret
            exact ⟨by rw [← HO.out _ rfl, e1.out, e2.out, e3.out, e4.out]; simp, (Below.refl _ w).alloc (Nat.le_refl _) _⟩
      · have e3 := Lib.hid (decide_eq_false h3)
        have H3 := Lib.hid (in_no l 0 1000000 h3)
        go_enter Try.func23, Try.ntmps23
        go_wp2_with fail
        refine (H1.out _).mono ?_
        rintro e w' ⟨rfl, rfl⟩
        go_wp2_with fail
        refine (H2.out _).mono ?_
        rintro e w' ⟨rfl, rfl⟩
        go_wp2_with fail
        refine (H3.out _).mono ?_
        rintro e w' ⟨rfl, rfl⟩
        go_wp2
        go_ret
        exact ⟨by rw [← HO.out _ rfl, e1.out, e2.out, e3.out]; simp, (Below.refl _ w).alloc (Nat.le_refl _) _⟩
    · have e2 := Lib.hid (decide_eq_false h2)
      have H2 := Lib.hid (in_no n (-1) 255 h2)
      go_enter Try.func23, Try.ntmps23
      go_wp2_with fail
      refine (H1.out _).mono ?_
      rintro e w' ⟨rfl, rfl⟩
      go_wp2_with fail
      refine (H2.out _).mono ?_
      rintro e w' ⟨rfl, rfl⟩
      go_wp2
      go_ret
      exact ⟨by rw [← HO.out _ rfl, e1.out, e2.out]; simp, (Below.refl _ w).alloc (Nat.le_refl _) _⟩
  · have e1 := Lib.hid (decide_eq_false h1)
    have H1 := Lib.hid (in_no c 0 2 h1)
    go_enter Try.func23, Try.ntmps23
    go_wp2_with fail
    refine (H1.out _).mono ?_
    rintro e w' ⟨rfl, rfl⟩
    go_wp2
    go_ret
    exact ⟨by rw [← HO.out _ rfl, e1.out]; simp, (Below.refl _ w).alloc (Nat.le_refl _) _⟩
end Go.Proofs.Ytegahdlfjdjcaab
