/- What this text proves: the contract of slices.Clone over lists of pairs. -/
import Derived.Test.YtggfmimnmpanbaaDoorPrS
import Derived.Lib.SliceRun
namespace Go.Proofs.YtggfmimnmpanbaaDoor
open Go.ChangeShapes Go.WideShapes Go.ChangeAt Go.RowKit
set_option linter.unusedVariables false


set_option maxHeartbeats 1000000 in
theorem clone_prs (A : Option Addr) (l : List Pr) (k : Nat) (hl : l.length ≤ 1099511) (w : World) (h : LsI 2 w w.heap.size A (l.map prC)) :
    Calls Tryd.prog 31 #[.slice A l.length k] w fun e w' => ∃ A1 c1, e = .returned (.slice A1 l.length c1) ∧ OwnR 32 2 w' w.heap.size (.slice A1 l.length c1) (l.map prC) ∧ Below w.heap.size w w' := by
  have hq : ∀ (w : World) (a : Option Addr) (n c n' c' : Nat), (binOp .eql 27 (.slice a n c) (.slice none n' c')).run Tryd.prog w = .ok (.bool a.isNone) w := fun w a n c n' c' => Lib.run_eql_slice_nil w _ _ a n c n' c' Tryd.underlying27
  have HB := Lib.hid ((Below.refl _ w).alloc (Nat.le_refl _) (.cells #[] 32))
  have HE := Lib.hid (OwnR.empty (E := 32) (sz := 2) w w.heap.size (Nat.le_refl _))
  cases A with
  | none =>
    have h0 : l = [] := by
      rcases h with h0 | ⟨b, off, hA, _⟩
      · rw [List.length_map] at h0; exact List.eq_nil_of_length_eq_zero h0
      · cases hA
    subst h0
    clear h
    go_enter Tryd.func31, Tryd.ntmps31
    go_wp2
    go_ret
    exact ⟨none, 0, rfl, OwnR.nil _ _ _ _, Below.refl _ _⟩
  | some a =>
    have HI := Lib.hid ((h.more HB.out).rows (pr_len l))
    obtain ⟨i, hi, hz0, hz1, hz2⟩ := info_parts info_pr
    have Hi := Lib.hid hi
    have Hz0 := Lib.hid hz0
    have Hz1 := Lib.hid hz1
    have Hz2 := Lib.hid hz2
    clear h hi hz0 hz1 hz2
    go_enter Tryd.func31, Tryd.ntmps31
    go_wp2_with (at_builtin; go_loud (refine app_rows 32 27 2 16 (.agg #[.int .i64 0, .int .i64 0]) i _ rfl _ _ rfl Tryd.underlying27 Hi.out Hz0.out Hz1.out Hz2.out rfl (by decide) (by decide) w.heap.size (.slice (some ⟨w.heap.size, 0, none⟩) 0 0) [] rfl HE.out (some a) (l.map prC) k (by rw [List.length_map]; rfl) (pr_len l) (pr_one l) HI.out (by simpa using hl) (by simp) ?_))
    intro v w2 hown hg _
    replace hown : OwnR 32 2 w2 w.heap.size v (l.map prC) := hown
    obtain ⟨A2, c2, rfl⟩ := hown.form
    rw [List.length_map] at hown ⊢
    have HO := Lib.hid hown
    have HB2 := Lib.hid (HB.out.grown hg (by simp) fun k hk => (World.ownsRow.lt HE.out.1 k hk).1)
    clear hown hg
    go_wp2
    go_ret
    exact ⟨_, _, rfl, HO.out, HB2.out⟩
end Go.Proofs.YtggfmimnmpanbaaDoor
