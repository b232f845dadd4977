/- What this text proves: receivers and notices as values: the contracts of the laws' own functions, of the model's and the program's ReceiverOk and NoticeOf. -/
import Derived.Test.YtmmedhjmilgnbaaDoorBox
import Derived.Test.YtmmedhjmilgnbaaDoorISq
namespace Go.Proofs.YtmmedhjmilgnbaaDoor
open Go.ChangeShapes Go.WideShapes Go.ChangeAt Go.RowKit
set_option linter.unusedVariables false

/-- A receiver as a value. -/
abbrev rcV (x : Int) (p q : Bool) (t : Int) : Value := .agg #[.int .i64 x, .bool p, .bool q, .int .i64 t]
abbrev rcL (x : Int) (p q : Bool) (t : Int) : List Value := [.int .i64 x, .bool p, .bool q, .int .i64 t]
/-- A notice as a value. -/
abbrev ntV (x : Int) (p q : Bool) : Value := .agg #[.int .i64 x, .bool p, .bool q]
abbrev ntL (x : Int) (p q : Bool) : List Value := [.int .i64 x, .bool p, .bool q]
def RcOk (x t : Int) : Prop := (0 ≤ x ∧ x ≤ 255) ∧ (0 ≤ t ∧ t ≤ 1000000)
instance (x t : Int) : Decidable (RcOk x t) := by unfold RcOk; infer_instance
abbrev Cells4R (W : World) (g : Nat) (x y z u : Value) : Prop := W.cell? ⟨g, 0, none⟩ = some x ∧ W.cell? ⟨g, 1, none⟩ = some y ∧ W.cell? ⟨g, 2, none⟩ = some z ∧ W.cell? ⟨g, 3, none⟩ = some u
theorem Box.fourR {W : World} {g : Nat} {x y z u : Value} (h : Box W g [x, y, z, u]) : Cells4R W g x y z u := ⟨h.cell 0 (by simp), h.cell 1 (by simp), h.cell 2 (by simp), h.cell 3 (by simp)⟩
abbrev Cells3R (W : World) (g : Nat) (x y z : Value) : Prop := W.cell? ⟨g, 0, none⟩ = some x ∧ W.cell? ⟨g, 1, none⟩ = some y ∧ W.cell? ⟨g, 2, none⟩ = some z
theorem Box.threeR {W : World} {g : Nat} {x y z : Value} (h : Box W g [x, y, z]) : Cells3R W g x y z := ⟨h.cell 0 (by simp), h.cell 1 (by simp), h.cell 2 (by simp)⟩

theorem to_rcv (x : Int) (p q : Bool) (t : Int) (w : World) :
    Calls Tryd.prog 21 #[rcV x p q t] w fun e w' => e = .returned (rcV x p q t) ∧ Below w.heap.size w w' := by
  go_enter Tryd.func21, Tryd.ntmps21
  go_wp2
  refine bodyPost_ret (v := rcV x p q t) (by simp [results, Tryd.results21, go_sem]) rfl ⟨rfl, (((Below.refl _ w).alloc (Nat.le_refl _) _).alloc (by simp) _).alloc (by simp; omega) _⟩
theorem eq_rcv (x : Int) (p q : Bool) (t : Int) (w : World) :
    Calls Tryd.prog 22 #[rcV x p q t, rcV x p q t] w fun e w' => e = .returned (.bool true) ∧ Below w.heap.size w w' := by
  have hp : (p != p) = false := by simp
  have hq : (q != q) = false := by simp
  go_enter Tryd.func22, Tryd.ntmps22
  go_wp2
  go_ret
  exact ⟨rfl, ((Below.refl _ w).alloc (Nat.le_refl _) _).alloc (by simp) _⟩
theorem ro_spec (x : Int) (p q : Bool) (t : Int) (w : World) :
    Calls Tryd.prog 34 #[rcV x p q t] w fun e w' => e = .returned (.bool (decide (RcOk x t))) ∧ Below w.heap.size w w' := by
  by_cases h1 : 0 ≤ x ∧ x ≤ 255
  · have H1 := Lib.hid (in_yes x 0 255 h1.1 h1.2)
    by_cases h2 : 0 ≤ t ∧ t ≤ 1000000
    · have H2 := Lib.hid (in_yes t 0 1000000 h2.1 h2.2)
      rw [decide_eq_true (show RcOk x t from ⟨h1, h2⟩)]
      clear h1 h2
      go_enter Tryd.func34, Tryd.ntmps34
      go_wp2_with fail
      refine (H1.out _).mono ?_
      rintro e w' ⟨rfl, rfl⟩
      go_wp2_with fail
      refine (H2.out _).mono ?_
      rintro e w' ⟨rfl, rfl⟩
      go_wp2
      go_ret
      exact ⟨rfl, (Below.refl _ w).alloc (Nat.le_refl _) _⟩
    · have H2 := Lib.hid (in_no t 0 1000000 h2)
      rw [decide_eq_false (show ¬ RcOk x t from fun h => h2 h.2)]
      clear h1 h2
      go_enter Tryd.func34, Tryd.ntmps34
      go_wp2_with fail
      refine (H1.out _).mono ?_
      rintro e w' ⟨rfl, rfl⟩
      go_wp2_with fail
      refine (H2.out _).mono ?_
      rintro e w' ⟨rfl, rfl⟩
      go_wp2
      go_ret
      exact ⟨rfl, (Below.refl _ w).alloc (Nat.le_refl _) _⟩
  · have H1 := Lib.hid (in_no x 0 255 h1)
    rw [decide_eq_false (show ¬ RcOk x t from fun h => h1 h.1)]
    clear h1
    go_enter Tryd.func34, Tryd.ntmps34
    go_wp2_with fail
    refine (H1.out _).mono ?_
    rintro e w' ⟨rfl, rfl⟩
    go_wp2
    go_ret
    exact ⟨rfl, (Below.refl _ w).alloc (Nat.le_refl _) _⟩
theorem ro_impl (x : Int) (p q : Bool) (t : Int) (w : World) :
    Calls Tryd.prog 18 #[rcV x p q t] w fun e w' => e = .returned (.bool (decide (RcOk x t))) ∧ Below w.heap.size w w' := by
  by_cases h1 : 0 ≤ x ∧ x ≤ 255
  · have H1 := Lib.hid (iq_yes x h1)
    by_cases h2 : 0 ≤ t ∧ t ≤ 1000000
    · have H2 := Lib.hid (iw_yes t 0 1000000 h2.1 h2.2)
      rw [decide_eq_true (show RcOk x t from ⟨h1, h2⟩)]
      clear h1 h2
      go_enter Tryd.func18, Tryd.ntmps18
      go_wp2_with fail
      refine (H1.out _).mono ?_
      rintro e w' ⟨rfl, rfl⟩
      go_wp2_with fail
      refine (H2.out _).mono ?_
      rintro e w' ⟨rfl, rfl⟩
      go_wp2
      go_ret
      exact ⟨rfl, (Below.refl _ w).alloc (Nat.le_refl _) _⟩
    · have H2 := Lib.hid (iw_no t 0 1000000 h2)
      rw [decide_eq_false (show ¬ RcOk x t from fun h => h2 h.2)]
      clear h1 h2
      go_enter Tryd.func18, Tryd.ntmps18
      go_wp2_with fail
      refine (H1.out _).mono ?_
      rintro e w' ⟨rfl, rfl⟩
      go_wp2_with fail
      refine (H2.out _).mono ?_
      rintro e w' ⟨rfl, rfl⟩
      go_wp2
      go_ret
      exact ⟨rfl, (Below.refl _ w).alloc (Nat.le_refl _) _⟩
  · have H1 := Lib.hid (iq_no x h1)
    rw [decide_eq_false (show ¬ RcOk x t from fun h => h1 h.1)]
    clear h1
    go_enter Tryd.func18, Tryd.ntmps18
    go_wp2_with fail
    refine (H1.out _).mono ?_
    rintro e w' ⟨rfl, rfl⟩
    go_wp2
    go_ret
    exact ⟨rfl, (Below.refl _ w).alloc (Nat.le_refl _) _⟩
theorem no_impl (x : Int) (p q : Bool) (t : Int) (w : World) :
    Calls Tryd.prog 15 #[rcV x p q t] w fun e w' => e = .returned (ntV x p q) ∧ Below w.heap.size w w' := by
  go_enter Tryd.func15, Tryd.ntmps15
  go_wp2
  refine bodyPost_ret (v := ntV x p q) (by simp [results, Tryd.results15, go_sem]) rfl ⟨rfl, ((Below.refl _ w).alloc (Nat.le_refl _) _).alloc (by simp) _⟩
end Go.Proofs.YtmmedhjmilgnbaaDoor
