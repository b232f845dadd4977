/- What this text proves: the contracts of the laws' marks over lists of numbers: marks that were written are found again, and change nothing else. -/
import Derived.Test.YtdfcamlnebcbpacInS
import Derived.Test.YtdfcamlnebcbpacGro
namespace Go.Proofs.Ytdfcamlnebcbpac
open Go.ChangeShapes Go.WideShapes Go.ChangeAt Go.RowKit
set_option linter.unusedVariables false


/-- The mark of the i-th. -/
def mkIn (M i : Nat) : List Value := [.int .i64 ((M : Int) + (i : Int))]

set_option maxHeartbeats 2000000 in
theorem markIn_any (w : World) (base : Nat) (v : Value) (l : List (List Value)) (hl : l.length ≤ 1100000) (M : Nat) (hM1 : 1 ≤ M) (hM : M ≤ 10000000) (hown : LsO 1 w base v l) :
    Calls Try.prog 22 #[v, .int .i64 (M : Int)] w fun e w' => e = .returned (.int .i64 ((M : Int) + (l.length : Int))) ∧ w.grownBy w' v.ownBlock ∧ LsO 1 w' base v ((List.range l.length).map (mkIn M)) := by
  obtain ⟨A1, cp, rfl⟩ := hown.form
  rcases Nat.eq_zero_or_pos l.length with h0 | h0
  · have hl0 : l = [] := List.eq_nil_of_length_eq_zero h0
    subst hl0
    go_enter Try.func22, Try.ntmps22
    go_wp2
    refine wp_loop_rounds 1 ?_
    rw [rounds_succ]
    go_wp2
    go_ret
    exact ⟨by simp, grown_of (Below.refl _ _) _, hown⟩
  · obtain ⟨g, off, ⟨d1, e1⟩, _, _⟩ := hown.rows h0
    injection e1 with e1 e1b e1c
    clear e1b e1c
    subst e1
    have P0 := Lib.hid hown
    have HWD := Lib.hid hown.wide
    clear hown
    go_enter Try.func22, Try.ntmps22
    go_wp2
    go_loopg [1, 5] l.length (fun gh v1 v5 wx => ∃ k : Nat, k ≤ l.length ∧ gh = l.length - k ∧ v5 = .int .i64 (k : Int) ∧ v1 = .int .i64 ((M : Int) + (k : Int)) ∧ LsO 1 wx base (.slice (some ⟨g, off, none⟩) l.length cp) (frontOf (mkIn M) l k) ∧ w.grownBy wx (some g))
    case atStart => exact ⟨0, by omega, rfl, rfl, by simp, by rw [frontOf_zero]; exact P0.out, grown_of (Below.refl _ _) _⟩
    case round =>
      obtain ⟨k, hk, rfl, rfl, rfl, hls, hbel⟩ := hrel
      have HB := Lib.hid hbel
      by_cases hlt : k < l.length
      · have hd : decide (k < l.length) = true := by simp; omega
        have hkf : k < (frontOf (mkIn M) l k).length := by rw [frontOf_len _ _ hk]; exact hlt
        have i0 := hls.ice (by omega)
        have HR := Lib.hid (HWD.out _ (List.getElem_mem hlt))
        have HAT := Lib.hid (frontOf_at (mkIn M) l hlt)
        have HFS := Lib.hid (frontOf_set (mkIn M) l hlt)
        obtain ⟨u0, c0'⟩ := hls.has k hkf 0 (by decide)
        have c0 : wr.cell? ⟨g, off + k, none⟩ = some u0 := by rw [Nat.mul_one] at c0'; exact c0'
        have s0 := hls.set k hkf 0 (by decide) (.int .i64 ((M : Int) + (k : Int)))
        have HF := Lib.hid (show LsO 1 (wr.setCell ⟨g, off + k, none⟩ (.int .i64 ((M : Int) + (k : Int)))) base (.slice (some ⟨g, off, none⟩) l.length cp) (frontOf (mkIn M) l (k + 1)) from by
          have h := s0
          rw [Nat.mul_one] at h
          have e : setAt (frontOf (mkIn M) l k) k 0 (.int .i64 ((M : Int) + (k : Int))) = frontOf (mkIn M) l (k + 1) := by
            unfold setAt
            rw [HAT.out, ← HFS.out]
            congr 1
            have hr := HR.out
            match l[k], hr with
            | [_], _ => rfl
          rw [e] at h
          exact h)
        have HG := Lib.hid (grown_store HB.out (j := off + k) (.int .i64 ((M : Int) + (k : Int))))
        clear hls hbel s0 c0'
        go_wp2
        go_roundg (l.length - (k + 1))
        case measure => omega
        case rel => exact ⟨k + 1, by omega, rfl, by go_num, by go_num, HF.out, HG.out⟩
      · have hd : decide (k < l.length) = false := by simp; omega
        obtain rfl : k = l.length := by omega
        rw [frontOf_all] at hls
        clear hlt
        go_wp2
        go_ret
        exact ⟨rfl, HB.out, hls⟩

set_option maxHeartbeats 2000000 in
theorem heldIn_any (w : World) (base M : Nat) (v : Value) (n : Nat) (hn : n ≤ 1100000) (hA : LsO 1 w base v ((List.range n).map (mkIn M))) (hM1 : 1 ≤ M) (hM : M ≤ 10000000) :
    Calls Try.prog 23 #[v, .int .i64 (M : Int)] w fun e w' => e = .returned (.int .i64 ((M : Int) + (n : Int))) ∧ Below w.heap.size w w' := by
  obtain ⟨A, c, rfl⟩ := hA.form
  rw [mark_len] at hA ⊢
  rcases Nat.eq_zero_or_pos n with h0 | h0
  · subst h0
    clear hA
    go_enter Try.func23, Try.ntmps23
    go_wp2
    refine wp_loop_rounds 1 ?_
    rw [rounds_succ]
    go_wp2
    go_ret
    exact ⟨by simp, Below.refl _ _⟩
  · obtain ⟨g, off, ⟨d1, e1⟩, _, _⟩ := hA.rows (by rw [mark_len]; exact h0)
    injection e1 with e1 e1b e1c
    clear e1b e1c
    subst e1
    have HM := Lib.hid (show ∀ k, k < n → w.cell? ⟨g, off + k, none⟩ = some (.int .i64 ((M : Int) + (k : Int))) from fun k hk => by
      have hc := (hA.at rfl (by rw [mark_len]; exact h0)).1
      have h0 := hc k (by rw [mark_len]; exact hk) 0 (by decide)
      simp only [mark_at, Nat.mul_one] at h0
      exact h0)
    clear hA
    go_enter Try.func23, Try.ntmps23
    go_wp2
    go_loopg [1, 5] n (fun gh v1 v5 wx => ∃ k : Nat, k ≤ n ∧ gh = n - k ∧ v5 = .int .i64 (k : Int) ∧ v1 = .int .i64 ((M : Int) + (k : Int)) ∧ w = wx)
    case atStart => exact ⟨0, by omega, rfl, rfl, by simp, rfl⟩
    case round =>
      obtain ⟨k, hk, rfl, rfl, rfl, rfl⟩ := hrel
      by_cases hlt : k < n
      · have hd : decide (k < n) = true := by simp; omega
        have x0 := HM.out k hlt
        go_wp2
        go_roundg (n - (k + 1))
        case measure => omega
        case rel => exact ⟨k + 1, by omega, rfl, by go_num, by go_num, rfl⟩
      · have hd : decide (k < n) = false := by simp; omega
        obtain rfl : k = n := by omega
        clear hlt
        go_wp2
        go_ret
        exact ⟨rfl, Below.refl _ _⟩
end Go.Proofs.Ytdfcamlnebcbpac
