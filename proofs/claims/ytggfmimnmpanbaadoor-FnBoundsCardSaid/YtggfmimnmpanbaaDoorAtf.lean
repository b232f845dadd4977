/- What this text proves: the laws' own reading of one byte returns one number from 0 to 255, in every world that has come of the first one. -/
import Derived.Test.YtggfmimnmpanbaaDoorAt
namespace Go.Proofs.YtggfmimnmpanbaaDoor
open Go.ChangeShapes Go.WideShapes Go.ChangeAt Go.RowKit
set_option linter.unusedVariables false

set_option maxHeartbeats 400000 in
theorem at_fix (B : Nat) (A : Option Addr) (n c : Nat) (hn : n ≤ 1048576) (i : Nat) (hi : i ≤ 1000000) (w : World) (hc : CodeOk w B A n) :
    ∃ x : Nat, x ≤ 255 ∧ ∀ W, Below B w W → Calls Tryd.prog 11 #[.slice A n c, .int .i64 i] W fun e w' => e = .returned (.int .i64 (x : Int)) ∧ W = w' := by
  by_cases h0 : n = 0
  · subst h0
    refine ⟨0, by omega, fun W _ => ?_⟩
    go_enter Tryd.func11, Tryd.ntmps11
    go_wp2
    go_ret
    exact ⟨rfl, rfl⟩
  · rcases hc with hc | ⟨b, off, rfl, hlt, hcell⟩
    · exact absurd hc h0
    · have hd : ((n : Int) == 0) = false := by simp; omega
      have hd2 : 0 < n := by omega
      obtain ⟨x, hx, hxc0⟩ := hcell ((i * 5 + 1) % n) (Nat.mod_lt _ hd2)
      have hlt2 : (i * 5 + 1) % n < n := Nat.mod_lt _ hd2
      have hm0 : (0 : Int) ≤ ((i : Int) * 5 + 1) % (n : Int) := Int.emod_nonneg _ (by omega)
      have hm1 : ((i : Int) * 5 + 1) % (n : Int) < (n : Int) := Int.emod_lt_of_pos _ (by omega)
      clear hcell h0
      refine ⟨x, hx, fun W hW => ?_⟩
      have hxc := (hW.cell (p := ⟨b, off + (i * 5 + 1) % n, none⟩) hlt).trans hxc0
      clear hxc0
      go_enter Tryd.func11, Tryd.ntmps11
      go_wp2
      go_ret
      exact ⟨rfl, rfl⟩
end Go.Proofs.YtggfmimnmpanbaaDoor
