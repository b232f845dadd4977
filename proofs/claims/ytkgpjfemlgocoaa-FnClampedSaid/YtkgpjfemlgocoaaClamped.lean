/- What this text proves: the law that a clamped number is in the range, is not changed again, and equals the number if this is in the range, returns true for every bytes that it draws from. -/
import Derived.Test.YtkgpjfemlgocoaaPick
import Derived.Test.YtkgpjfemlgocoaaClamp
namespace Go.Proofs.Ytkgpjfemlgocoaa
open Go.ChangeShapes Go.WideShapes Go.ChangeAt Go.RowKit
set_option linter.unusedVariables false

def ThreeRes (w : World) (e : Ending) (w' : World) : Prop := ∃ x y z : Int, e = .returned (.tuple #[.int .i64 x, .int .i64 y, .int .i64 z]) ∧ Below w.heap.size w w'

set_option maxHeartbeats 1000000 in
theorem draw_clamp (A : Option Addr) (n c : Nat) (hn : n ≤ 1048576) (w : World) (hc : CodeOk w w.heap.size A n) :
    Calls Try.prog 20 #[.slice A n c] w (ThreeRes w) := by
  have Hn := Lib.hid (new_any A n c hn w hc)
  clear hc
  go_enter Try.func20, Try.ntmps20
  go_wp2_with fail
  refine Hn.out.mono ?_
  rintro e w1 ⟨rfl, hc1, hb1⟩
  have HB := Lib.hid hb1
  clear hb1
  go_wp2_with fail
  refine (once_any _ _ 4 (by decide) hc1).mono ?_
  rintro e w2 ⟨b, rfl, hc2, hg2⟩
  cases b with
  | true =>
    go_wp2_with fail
    refine (number_any _ _ hc2).mono ?_
    rintro e w3 ⟨x, hx, rfl, hc3, hg3⟩
    go_wp2_with fail
    refine (number_any _ _ hc3).mono ?_
    rintro e w4 ⟨y, hy, rfl, hc4, hg4⟩
    go_wp2_with fail
    refine (number_any _ _ hc4).mono ?_
    rintro e w5 ⟨z, hz, rfl, hc5, hg5⟩
    go_wp2
    go_ret3
    exact ⟨x, y, z, rfl, below_of_new HB.out (grown_trans (grown_trans (grown_trans hg2 hg3) hg4) hg5) (Nat.le_refl _)⟩
  | false =>
    go_wp2_with fail
    refine (below_any _ _ 40 (by decide) hc2).mono ?_
    rintro e w3 ⟨x, hx0, hx1, hx2, rfl, hc3, hg3⟩
    have hx3 := hx1 (by decide)
    clear hx1 hx2
    go_wp2_with fail
    refine (below_any _ _ 80 (by decide) hc3).mono ?_
    rintro e w4 ⟨y, hy0, hy1, hy2, rfl, hc4, hg4⟩
    have hy3 := hy1 (by decide)
    clear hy1 hy2
    go_wp2_with fail
    refine (below_any _ _ 30 (by decide) hc4).mono ?_
    rintro e w5 ⟨z, hz0, hz1, hz2, rfl, hc5, hg5⟩
    have hz3 := hz1 (by decide)
    clear hz1 hz2
    go_wp2
    go_ret3
    exact ⟨_, _, _, rfl, below_of_new HB.out (grown_trans (grown_trans (grown_trans hg2 hg3) hg4) hg5) (Nat.le_refl _)⟩

theorem clampI_7 : clampI 7 3 5 = 5 := by decide

set_option maxHeartbeats 1000000 in
theorem law_clamped (A : Option Addr) (n c : Nat) (hm : n ≤ maxLen) (w : World) (hc : CodeOk w w.heap.size A n) :
    Calls Try.prog 7 #[.slice A n c] w fun e w' => e = .returned (.bool true) ∧ Below w.heap.size w w' := by
  by_cases hbig : 1048576 < n
  · go_enter Try.func7, Try.ntmps7
    go_wp2_with (go_at_call 19; refine (big_yes _ _ _ hbig hm _).mono ?_; rintro e w' ⟨rfl, rfl⟩)
    go_ret
    exact ⟨rfl, Below.refl _ _⟩
  · have hn : n ≤ 1048576 := by omega
    have Hd := Lib.hid (draw_clamp A n c hn w hc)
    clear hc hbig
    have h7 := Lib.hid (fun w' : World => clamp_impl 7 3 5 w')
    rw [clampI_7] at h7
    go_enter Try.func7, Try.ntmps7
    go_wp2_with (go_at_call 19; refine (big_no _ _ _ hn _).mono ?_; rintro e w' ⟨rfl, rfl⟩)
    refine Hd.out.mono ?_
    rintro e w1 ⟨x, a, b, rfl, hb1⟩
    have HB := Lib.hid hb1
    clear hb1
    have hX := Lib.hid (fun w' : World => clamp_impl x a b w')
    have hXX := Lib.hid (fun w' : World => clamp_impl (clampI x a b) a b w')
    by_cases hab : b < a
    · have hdab : decide (b < a) = true := by simp; omega
      have e1 : clampI x a b = a := by unfold clampI; rw [if_pos (.inl hab)]
      rw [e1] at hX
      clear e1 hXX hab
      go_wp2_with fail
      refine (hX.out _).mono ?_
      rintro e w' ⟨rfl, rfl⟩
      go_wp2_with fail
      refine (h7.out _).mono ?_
      rintro e w' ⟨rfl, rfl⟩
      go_wp2
      go_ret
      exact ⟨rfl, HB.out⟩
    · have hdab : decide (b < a) = false := by simp; omega
      have f1 : a ≤ clampI x a b := by unfold clampI; repeat' split
                                       all_goals omega
      have f2 : clampI x a b ≤ b := by unfold clampI; repeat' split
                                       all_goals omega
      have f3 : clampI (clampI x a b) a b = clampI x a b := by
        generalize clampI x a b = X at *
        unfold clampI; repeat' split
        all_goals omega
      have f4 : ¬ x < a → ¬ b < x → clampI x a b = x := fun h1 h2 => by
        unfold clampI; rw [if_neg (by omega), if_neg h2]
      rw [f3] at hXX
      generalize clampI x a b = X at *
      have d1 : decide (a ≤ X) = true := by simp; omega
      have d2 : decide (X ≤ b) = true := by simp; omega
      clear f3 f1 f2
      by_cases g1 : x < a
      · have dg1 : decide (x < a) = true := by simp; omega
        clear f4 hab g1
        go_wp2_with fail
        refine (hX.out _).mono ?_
        rintro e w' ⟨rfl, rfl⟩
        go_wp2_with fail
        refine (hXX.out _).mono ?_
        rintro e w' ⟨rfl, rfl⟩
        go_wp2_with fail
        refine (h7.out _).mono ?_
        rintro e w' ⟨rfl, rfl⟩
        go_wp2
        go_ret
        exact ⟨rfl, HB.out⟩
      · have dg1 : decide (x < a) = false := by simp; omega
        by_cases g2 : b < x
        · have dg2 : decide (b < x) = true := by simp; omega
          clear f4 hab g1 g2
          go_wp2_with fail
          refine (hX.out _).mono ?_
          rintro e w' ⟨rfl, rfl⟩
          go_wp2_with fail
          refine (hXX.out _).mono ?_
          rintro e w' ⟨rfl, rfl⟩
          go_wp2_with fail
          refine (h7.out _).mono ?_
          rintro e w' ⟨rfl, rfl⟩
          go_wp2
          go_ret
          exact ⟨rfl, HB.out⟩
        · have dg2 : decide (b < x) = false := by simp; omega
          have dg3 : (X == x) = true := by simpa using f4 g1 g2
          clear f4 hab g1 g2
          go_wp2_with fail
          refine (hX.out _).mono ?_
          rintro e w' ⟨rfl, rfl⟩
          go_wp2_with fail
          refine (hXX.out _).mono ?_
          rintro e w' ⟨rfl, rfl⟩
          go_wp2_with fail
          refine (h7.out _).mono ?_
          rintro e w' ⟨rfl, rfl⟩
          go_wp2
          go_ret
          exact ⟨rfl, HB.out⟩
end Go.Proofs.Ytkgpjfemlgocoaa
