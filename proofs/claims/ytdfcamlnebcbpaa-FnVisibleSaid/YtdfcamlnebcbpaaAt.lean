/- What this text proves: the laws' own reading of one byte returns a number from 0 to 255, whatever the place. -/
import Derived.Test.YtdfcamlnebcbpaaCode
namespace Go.Proofs.Ytdfcamlnebcbpaa
open Go.ChangeShapes Go.WideShapes Go.ChangeAt Go.RowKit
set_option linter.unusedVariables false

set_option maxHeartbeats 400000 in
theorem at_any (B : Nat) (A : Option Addr) (n c : Nat) (hn : n ≤ 1048576) (i : Nat) (hi : i ≤ 1000000) (w : World) (hc : CodeOk w B A n) :
    Calls Try.prog 11 #[.slice A n c, .int .i64 i] w (Small w) := by
  by_cases h0 : n = 0
  · subst h0
    go_enter Try.func11, Try.ntmps11
    go_wp2
    go_ret
    exact ⟨0, by omega, rfl, rfl⟩
  · rcases hc with hc | ⟨b, off, rfl, hlt, hcell⟩
    · exact absurd hc h0
    · have hd : ((n : Int) == 0) = false := by simp; omega
      have hd2 : 0 < n := by omega
      obtain ⟨x, hx, hxc⟩ := hcell ((i * 5 + 1) % n) (Nat.mod_lt _ hd2)
      have hlt2 : (i * 5 + 1) % n < n := Nat.mod_lt _ hd2
      have hm0 : (0 : Int) ≤ ((i : Int) * 5 + 1) % (n : Int) := Int.emod_nonneg _ (by omega)
      have hm1 : ((i : Int) * 5 + 1) % (n : Int) < (n : Int) := Int.emod_lt_of_pos _ (by omega)
      clear hcell h0
      go_enter Try.func11, Try.ntmps11
      go_wp2
      go_ret
      exact ⟨x, hx, rfl, rfl⟩
end Go.Proofs.Ytdfcamlnebcbpaa
