/- What this text proves: the contracts of the model's NewSender and of the program's. -/
import Derived.Test.YtmmedhjmilgnbaaISo
import Derived.Test.YtmmedhjmilgnbaaSndB
namespace Go.Proofs.Ytmmedhjmilgnbaa
open Go.ChangeShapes Go.WideShapes Go.ChangeAt Go.RowKit
set_option linter.unusedVariables false

def nwW (b : Int) : Int := if 1 ≤ b ∧ b ≤ 20 then b else 0
def nwB (b : Int) : Bool := decide (1 ≤ b ∧ b ≤ 20)
theorem snB_new (b : Int) : snB 0 b [] 0 = nwB b := by
  by_cases h : 1 ≤ b ∧ b ≤ 20
  · rw [snB_yes ⟨⟨by omega, h, by omega, by simp; omega⟩, fun i hi => absurd hi (Nat.not_lt_zero _)⟩]
    exact (decide_eq_true h).symm
  · rw [snB_no (fun h1 => h h1.1.2.1)]
    exact (decide_eq_false h).symm

set_option maxHeartbeats 1000000 in
theorem new_spec (b : Int) (w : World) :
    Calls Try.prog 25 #[.int .i64 b] w fun e w' => e = .returned (.tuple #[seV 0 (nwW b) (.slice none 0 0) 0, .bool (nwB b)]) ∧ Below w.heap.size w w' := by
  have HS := Lib.hid (fun W => (show Calls Try.prog 21 #[seV 0 b (.slice none 0 0) 0] W fun e w' => e = .returned (.bool (nwB b)) ∧ Below W.heap.size W w' from by
    have h := so_spec 0 b 0 none [] 0 (by simp) (fun j hj => absurd hj (Nat.not_lt_zero _)) W (.inl rfl)
    rw [snB_new] at h
    exact h))
  have BR := (Box.made w (seL 0 0 (.slice none 0 0) 0) 42 w.heap.size rfl).alloc (.cells (seL 0 b (.slice none 0 0) 0).toArray 42)
  have BO := Box.made (w.alloc (.cells (seL 0 0 (.slice none 0 0) 0).toArray 42)) (seL 0 b (.slice none 0 0) 0) 42 (w.heap.size + 1) (by simp)
  have BB := ((Below.refl _ w).alloc (Nat.le_refl _) (.cells (seL 0 0 (.slice none 0 0) 0).toArray 42)).alloc (by simp) (.cells (seL 0 b (.slice none 0 0) 0).toArray 42)
  by_cases hb : 1 ≤ b ∧ b ≤ 20
  · have HW := Lib.hid (show nwW b = b from if_pos hb)
    have HB := Lib.hid (show nwB b = true from decide_eq_true hb)
    rw [HB.out] at HS
    rw [HW.out, HB.out]
    clear hb
    go_enter Try.func25, Try.ntmps25
    go_wp2_with fail
    refine (HS.out _).mono ?_
    rintro e w1 ⟨rfl, hb1⟩
    have BR1 := BR.more hb1
    have BO1 := BO.more hb1
    have BW := Lib.hid (below_setCells (B := w.heap.size) (Nat.le_refl _) (seL 0 b (.slice none 0 0) 0) 0 _ (BB.trans (hb1.mono BB.size)))
    have BF := Lib.hid (BR1.all (us := seL 0 b (.slice none 0 0) 0) rfl)
    obtain ⟨k0, k1, k2, k3⟩ := BO1.fourS
    obtain ⟨r0, r1, r2, r3⟩ := BR1.fourS
    have ri := BR1.ice
    clear BR BO BB hb1 BO1 BR1
    go_wp2
    show bodyPost Try.prog Try.f25 _ Exit.ret _ (w1.setCells w.heap.size 0 (seL 0 b (.slice none 0 0) 0))
    generalize w1.setCells w.heap.size 0 (seL 0 b (.slice none 0 0) 0) = WE at *
    obtain ⟨c0, c1, c3, c4⟩ := BF.out.fourS
    refine bodyPost_ret_by (v := .tuple #[seV 0 b (.slice none 0 0) 0, .bool true]) ?_ rfl ⟨rfl, BW.out⟩
    simp [results, Try.f25, go_sem, c0, c1, c3, c4]
  · have HW := Lib.hid (show nwW b = 0 from if_neg hb)
    have HB := Lib.hid (show nwB b = false from decide_eq_false hb)
    rw [HB.out] at HS
    rw [HW.out, HB.out]
    clear hb
    go_enter Try.func25, Try.ntmps25
    go_wp2_with fail
    refine (HS.out _).mono ?_
    rintro e w1 ⟨rfl, hb1⟩
    have BR1 := BR.more hb1
    have BW := Lib.hid (below_setCells (B := w.heap.size) (Nat.le_refl _) (seL 0 0 (.slice none 0 0) 0) 0 _ (BB.trans (hb1.mono BB.size)))
    have BF := Lib.hid (BR1.all (us := seL 0 0 (.slice none 0 0) 0) rfl)
    obtain ⟨r0, r1, r2, r3⟩ := BR1.fourS
    have ri := BR1.ice
    clear BR BO BB hb1 BR1
    go_wp2
    show bodyPost Try.prog Try.f25 _ Exit.ret _ (w1.setCells w.heap.size 0 (seL 0 0 (.slice none 0 0) 0))
    generalize w1.setCells w.heap.size 0 (seL 0 0 (.slice none 0 0) 0) = WE at *
    obtain ⟨c0, c1, c3, c4⟩ := BF.out.fourS
    refine bodyPost_ret_by (v := .tuple #[seV 0 0 (.slice none 0 0) 0, .bool false]) ?_ rfl ⟨rfl, BW.out⟩
    simp [results, Try.f25, go_sem, c0, c1, c3, c4]
set_option maxHeartbeats 1000000 in
theorem new_impl (b : Int) (w : World) :
    Calls Try.prog 26 #[.int .i64 b] w fun e w' => e = .returned (.tuple #[seV 0 (nwW b) (.slice none 0 0) 0, .bool (nwB b)]) ∧ Below w.heap.size w w' := by
  have HS := Lib.hid (fun W => (show Calls Try.prog 23 #[seV 0 b (.slice none 0 0) 0] W fun e w' => e = .returned (.bool (nwB b)) ∧ Below W.heap.size W w' from by
    have h := so_impl 0 b 0 none [] 0 (by simp) (fun j hj => absurd hj (Nat.not_lt_zero _)) W (.inl rfl)
    rw [snB_new] at h
    exact h))
  have BR := (Box.made w (seL 0 0 (.slice none 0 0) 0) 42 w.heap.size rfl).alloc (.cells (seL 0 b (.slice none 0 0) 0).toArray 42)
  have BO := Box.made (w.alloc (.cells (seL 0 0 (.slice none 0 0) 0).toArray 42)) (seL 0 b (.slice none 0 0) 0) 42 (w.heap.size + 1) (by simp)
  have BB := ((Below.refl _ w).alloc (Nat.le_refl _) (.cells (seL 0 0 (.slice none 0 0) 0).toArray 42)).alloc (by simp) (.cells (seL 0 b (.slice none 0 0) 0).toArray 42)
  by_cases hb : 1 ≤ b ∧ b ≤ 20
  · have HW := Lib.hid (show nwW b = b from if_pos hb)
    have HB := Lib.hid (show nwB b = true from decide_eq_true hb)
    rw [HB.out] at HS
    rw [HW.out, HB.out]
    clear hb
    go_enter Try.func26, Try.ntmps26
    go_wp2_with fail
    refine (HS.out _).mono ?_
    rintro e w1 ⟨rfl, hb1⟩
    have BR1 := BR.more hb1
    have BO1 := BO.more hb1
    have BW := Lib.hid (below_setCells (B := w.heap.size) (Nat.le_refl _) (seL 0 b (.slice none 0 0) 0) 0 _ (BB.trans (hb1.mono BB.size)))
    have BF := Lib.hid (BR1.all (us := seL 0 b (.slice none 0 0) 0) rfl)
    obtain ⟨k0, k1, k2, k3⟩ := BO1.fourS
    obtain ⟨r0, r1, r2, r3⟩ := BR1.fourS
    have ri := BR1.ice
    clear BR BO BB hb1 BO1 BR1
    go_wp2
    show bodyPost Try.prog Try.f26 _ Exit.ret _ (w1.setCells w.heap.size 0 (seL 0 b (.slice none 0 0) 0))
    generalize w1.setCells w.heap.size 0 (seL 0 b (.slice none 0 0) 0) = WE at *
    obtain ⟨c0, c1, c3, c4⟩ := BF.out.fourS
    refine bodyPost_ret_by (v := .tuple #[seV 0 b (.slice none 0 0) 0, .bool true]) ?_ rfl ⟨rfl, BW.out⟩
    simp [results, Try.f26, go_sem, c0, c1, c3, c4]
  · have HW := Lib.hid (show nwW b = 0 from if_neg hb)
    have HB := Lib.hid (show nwB b = false from decide_eq_false hb)
    rw [HB.out] at HS
    rw [HW.out, HB.out]
    clear hb
    go_enter Try.func26, Try.ntmps26
    go_wp2_with fail
    refine (HS.out _).mono ?_
    rintro e w1 ⟨rfl, hb1⟩
    have BR1 := BR.more hb1
    have BW := Lib.hid (below_setCells (B := w.heap.size) (Nat.le_refl _) (seL 0 0 (.slice none 0 0) 0) 0 _ (BB.trans (hb1.mono BB.size)))
    have BF := Lib.hid (BR1.all (us := seL 0 0 (.slice none 0 0) 0) rfl)
    obtain ⟨r0, r1, r2, r3⟩ := BR1.fourS
    have ri := BR1.ice
    clear BR BO BB hb1 BR1
    go_wp2
    show bodyPost Try.prog Try.f26 _ Exit.ret _ (w1.setCells w.heap.size 0 (seL 0 0 (.slice none 0 0) 0))
    generalize w1.setCells w.heap.size 0 (seL 0 0 (.slice none 0 0) 0) = WE at *
    obtain ⟨c0, c1, c3, c4⟩ := BF.out.fourS
    refine bodyPost_ret_by (v := .tuple #[seV 0 0 (.slice none 0 0) 0, .bool false]) ?_ rfl ⟨rfl, BW.out⟩
    simp [results, Try.f26, go_sem, c0, c1, c3, c4]
end Go.Proofs.Ytmmedhjmilgnbaa
