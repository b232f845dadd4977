/- What this text proves: a new cursor lies in memory of its own, and its first step away from it changes nothing else. -/
import Derived.Test.YtdfcamlnebcbpaaCur
namespace Go.Proofs.Ytdfcamlnebcbpaa
open Go.ChangeShapes Go.WideShapes Go.ChangeAt Go.RowKit
set_option linter.unusedVariables false

def NewRes (w : World) (e : Ending) (w' : World) : Prop := e = .returned (.pointer (some ⟨w.heap.size, 0, none⟩)) ∧ CurB w' w.heap.size ∧ Below w.heap.size w w'
theorem mask30 (x : Int) (h₀ : 0 ≤ x) (h₁ : x < 2 ^ 63) : bits .and .i64 x 1073741823 = x % 1073741824 :=
  bits_mask .i64 63 (by decide) (fun n h0 h1 => by rw [IntKind.wrap_i64]; omega) 30 (by decide) x h₀ h₁

set_option maxHeartbeats 1000000 in
theorem new_any (A : Option Addr) (n c : Nat) (hn : n ≤ 1048576) (w : World) (hc : CodeOk w w.heap.size A n) :
    Calls Try.prog 31 #[.slice A n c] w (NewRes w) := by
  have Hc := Lib.hid hc
  clear hc
  go_enter Try.func31, Try.ntmps31
  go_wp2
  go_loop [3, 4] (fun h i => ∃ H k : Nat, h = .int .i64 (H : Int) ∧ i = .int .i64 (k : Int) ∧ H < 2147483648 ∧ k ≤ n) (fun _ i => n - (intOf i).toNat)
  case atStart => exact ⟨33163 + n, 0, by go_num, rfl, by omega, by omega⟩
  case round =>
    obtain ⟨H, k, rfl, rfl, hH, hk⟩ := hrel
    by_cases hlt : k < n
    · have hd : decide (k < n) = true := by simp; omega
      by_cases h4 : k < 4000
      · have hd4 : decide ((k : Int) < 4000) = true := by simp; omega
        rcases Hc.out with h0 | ⟨b, off, rfl, hb, hcell⟩
        · omega
        · obtain ⟨x, hx, hxc⟩ := hcell k hlt
          clear hcell
          go_wp2
          have e := mask30 ((H : Int) * 131 + (x : Int) + 7) (by omega) (by omega)
          refine ⟨⟨(H * 131 + x + 7) % 1073741824, k + 1, ?_, by go_num, by omega, by omega⟩, by simp [intOf]; omega⟩
          rw [e]
          go_num
      · have hd4 : decide ((k : Int) < 4000) = false := by simp; omega
        clear h4
        go_wp2
        go_ret
        exact ⟨rfl, ⟨A, n, c, 0, H, heap_alloc_new _ _, by omega, hn, Hc.out.more ((Below.refl _ _).alloc (Nat.le_refl _) _)⟩, (Below.refl _ _).alloc (Nat.le_refl _) _⟩
    · have hd : decide (k < n) = false := by simp; omega
      clear hlt
      go_wp2
      go_ret
      exact ⟨rfl, ⟨A, n, c, 0, H, heap_alloc_new _ _, by omega, hn, Hc.out.more ((Below.refl _ _).alloc (Nat.le_refl _) _)⟩, (Below.refl _ _).alloc (Nat.le_refl _) _⟩

theorem below_of_new {w w1 w2 : World} {g : Nat} (h : Below w.heap.size w w1) (hg : w1.grownBy w2 (some g)) (hlt : w.heap.size ≤ g) : Below w.heap.size w w2 :=
  h.grown hg h.size fun k hk => by injection hk with hk; omega


def OnceRes (g : Nat) (w : World) (e : Ending) (w' : World) : Prop := ∃ b : Bool, e = .returned (.bool b) ∧ CurB w' g ∧ w.grownBy w' (some g)
end Go.Proofs.Ytdfcamlnebcbpaa
