/- What this text proves: the contracts of ChannelOk, of the laws' copy of a channel, and of their comparison. -/
import Derived.Test.YtdponcannphboabDoorLaw
import Derived.Test.YtdponcannphboabDoorRand
import Derived.WalkKit
import Derived.Lib.Hide
namespace Go.Proofs.YtdponcannphboabDoor
open Go.ChangeShapes Go.WideShapes Go.ChangeAt Go.RowKit
set_option linter.unusedVariables false

/-- A channel as a value. -/
abbrev chV (a b c : Int) : Value := .agg #[.int .i64 a, .int .i64 b, .int .i64 c]
def ChOk (a b c : Int) : Prop := (0 ≤ a ∧ a ≤ 65535) ∧ (0 ≤ b ∧ b ≤ 100) ∧ (0 ≤ c ∧ c ≤ 100)
instance (a b c : Int) : Decidable (ChOk a b c) := by unfold ChOk; infer_instance

theorem pct_yes (a : Int) (h1 : 0 ≤ a) (h2 : a ≤ 100) (w : World) :
    Calls Tryd.prog 41 #[.int .i64 a] w fun e w' => e = .returned (.bool true) ∧ w = w' := by
  have d1 : decide (0 ≤ a) = true := by simp; omega
  have d2 : decide (a ≤ 100) = true := by simp; omega
  go_enter Tryd.func41, Tryd.ntmps41
  go_wp2
  go_ret
  exact ⟨rfl, rfl⟩
theorem pct_no (a : Int) (h : ¬ (0 ≤ a ∧ a ≤ 100)) (w : World) :
    Calls Tryd.prog 41 #[.int .i64 a] w fun e w' => e = .returned (.bool false) ∧ w = w' := by
  by_cases h1 : 0 ≤ a
  · have d1 : decide (0 ≤ a) = true := by simp; omega
    have d2 : decide (a ≤ 100) = false := by simp; omega
    go_enter Tryd.func41, Tryd.ntmps41
    go_wp2
    go_ret
    exact ⟨rfl, rfl⟩
  · have d1 : decide (0 ≤ a) = false := by simp; omega
    go_enter Tryd.func41, Tryd.ntmps41
    go_wp2
    go_ret
    exact ⟨rfl, rfl⟩
theorem pct_any (a : Int) (w : World) :
    Calls Tryd.prog 41 #[.int .i64 a] w fun e w' => e = .returned (.bool (decide (0 ≤ a ∧ a ≤ 100))) ∧ w = w' := by
  by_cases h : 0 ≤ a ∧ a ≤ 100
  · rw [decide_eq_true h]
    exact pct_yes a h.1 h.2 w
  · rw [decide_eq_false h]
    exact pct_no a h w
theorem seed_any (a : Int) (w : World) :
    Calls Tryd.prog 39 #[.int .i64 a] w fun e w' => e = .returned (.bool (decide (0 ≤ a ∧ a ≤ 65535))) ∧ w = w' := by
  by_cases h : 0 ≤ a ∧ a ≤ 65535
  · rw [decide_eq_true h]
    exact seed_yes a h.1 h.2 w
  · rw [decide_eq_false h]
    exact seed_no a h w
theorem in_any (a b c : Int) (w : World) :
    Calls Tryd.prog 55 #[.int .i64 a, .int .i64 b, .int .i64 c] w fun e w' => e = .returned (.bool (decide (b ≤ a ∧ a ≤ c))) ∧ w = w' := by
  by_cases h : b ≤ a ∧ a ≤ c
  · rw [decide_eq_true h]
    exact in_yes a b c h.1 h.2 w
  · rw [decide_eq_false h]
    exact in_no a b c h w

theorem chan_impl (a b c : Int) (w : World) :
    Calls Tryd.prog 18 #[chV a b c] w fun e w' => e = .returned (.bool (decide (ChOk a b c))) ∧ Below w.heap.size w w' := by
  have HO := Lib.hid (show ∀ B : Bool, (B = (decide (0 ≤ a ∧ a ≤ 65535) && (decide (0 ≤ b ∧ b ≤ 100) && decide (0 ≤ c ∧ c ≤ 100)))) → B = decide (ChOk a b c) from fun B h => by
    rw [h, Bool.eq_iff_iff]
    simp only [Bool.and_eq_true, decide_eq_true_iff]
    exact Iff.rfl)
  by_cases h1 : 0 ≤ a ∧ a ≤ 65535
  · by_cases h2 : 0 ≤ b ∧ b ≤ 100
    · have e1 := Lib.hid (decide_eq_true h1)
      have e2 := Lib.hid (decide_eq_true h2)
      have H1 := Lib.hid (seed_yes a h1.1 h1.2)
      have H2 := Lib.hid (pct_yes b h2.1 h2.2)
      have H3 := Lib.hid (pct_any c)
      go_enter Tryd.func18, Tryd.ntmps18
      go_wp2_with fail
      refine (H1.out _).mono ?_
      rintro e w' ⟨rfl, rfl⟩
      go_wp2_with fail
      refine (H2.out _).mono ?_
      rintro e w' ⟨rfl, rfl⟩
      go_wp2_with fail
      refine (H3.out _).mono ?_
      rintro e w' ⟨rfl, rfl⟩
      go_wp2
      go_ret
      exact ⟨by rw [← HO.out _ rfl, e1.out, e2.out]; simp, (Below.refl _ w).alloc (Nat.le_refl _) _⟩
    · have e1 := Lib.hid (decide_eq_true h1)
      have e2 := Lib.hid (decide_eq_false h2)
      have H1 := Lib.hid (seed_yes a h1.1 h1.2)
      have H2 := Lib.hid (pct_no b h2)
      go_enter Tryd.func18, Tryd.ntmps18
      go_wp2_with fail
      refine (H1.out _).mono ?_
      rintro e w' ⟨rfl, rfl⟩
      go_wp2_with fail
      refine (H2.out _).mono ?_
      rintro e w' ⟨rfl, rfl⟩
      go_wp2
      go_ret
      exact ⟨by rw [← HO.out _ rfl, e1.out, e2.out]; simp, (Below.refl _ w).alloc (Nat.le_refl _) _⟩
  · have e1 := Lib.hid (decide_eq_false h1)
    have H1 := Lib.hid (seed_no a h1)
    go_enter Tryd.func18, Tryd.ntmps18
    go_wp2_with fail
    refine (H1.out _).mono ?_
    rintro e w' ⟨rfl, rfl⟩
    go_wp2
    go_ret
    exact ⟨by rw [← HO.out _ rfl, e1.out]; simp, (Below.refl _ w).alloc (Nat.le_refl _) _⟩
/-- The cells of a channel in a block of its own. -/
def BoxC (W : World) (g : Nat) (a b c : Int) : Prop := W.cell? ⟨g, 0, none⟩ = some (.int .i64 a) ∧ W.cell? ⟨g, 1, none⟩ = some (.int .i64 b) ∧ W.cell? ⟨g, 2, none⟩ = some (.int .i64 c)
theorem BoxC.made (w : World) (a b c : Int) (T : TypeId) : BoxC (w.alloc (.cells #[.int .i64 a, .int .i64 b, .int .i64 c] T)) w.heap.size a b c := by
  refine ⟨?_, ?_, ?_⟩ <;> exact World.cell?_alloc_at _ _ _ _ rfl
theorem BoxC.more {W W' : World} {g n : Nat} {a b c : Int} (h : BoxC W g a b c) (hb : Below n W W') (hg : g < n) : BoxC W' g a b c :=
  ⟨(hb.cell (p := ⟨g, 0, none⟩) hg).trans h.1, (hb.cell (p := ⟨g, 1, none⟩) hg).trans h.2.1, (hb.cell (p := ⟨g, 2, none⟩) hg).trans h.2.2⟩
end Go.Proofs.YtdponcannphboabDoor
