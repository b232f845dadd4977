/- What this text proves: the parts Code, At, CodeRow of the proof, each under its own words. -/
import Derived.Test.YtckofkdeedbbgaaRR00
import Derived.WalkKit
import Derived.LoopTactic
import Derived.IntWalk
import Derived.Lib.Hide
import Derived.BigQuiet
import Derived.Deep.QuietTactic
import Derived.Outline
import Derived.ChangeSlices
/- What this text proves: what the laws ask of the bytes that they draw from: their length is looked at, and single ones are read. -/
namespace Go.Proofs.Ytckofkdeedbbgaa
open Go.ChangeShapes Go.WideShapes Go.ChangeAt Go.RowKit
set_option linter.unusedVariables false

/-- The first n cells at an address below block B are bytes. -/
def CodeOk (w : World) (B : Nat) (A : Option Addr) (n : Nat) : Prop :=
  n = 0 ∨ ∃ b off, A = some ⟨b, off, none⟩ ∧ b < B ∧ ∀ j, j < n → ∃ x : Nat, x ≤ 255 ∧ w.cell? ⟨b, off + j, none⟩ = some (.int .u8 (x : Int))
theorem CodeOk.more {w w' : World} {B : Nat} {A : Option Addr} {n : Nat} (h : CodeOk w B A n) (hb : Below B w w') : CodeOk w' B A n := by
  rcases h with h | ⟨b, off, hA, hlt, hc⟩
  · exact .inl h
  · refine .inr ⟨b, off, hA, hlt, fun j hj => ?_⟩
    obtain ⟨x, hx, hcell⟩ := hc j hj
    exact ⟨x, hx, by rw [hb.cell (p := ⟨b, off + j, none⟩) hlt]; exact hcell⟩

def Small (w : World) (e : Ending) (w' : World) : Prop := ∃ x : Nat, x ≤ 255 ∧ e = .returned (.int .i64 (x : Int)) ∧ w = w'

theorem big_yes (A : Option Addr) (n c : Nat) (hn : 1048576 < n) (hm : n ≤ maxLen) (w : World) :
    Calls Try.prog 9 #[.slice A n c] w fun e w' => e = .returned (.bool true) ∧ w = w' := by
  unfold maxLen at hm
  have hd : decide ((1048576 : Int) < (n : Int)) = true := by simp; omega
  go_enter Try.func9, Try.ntmps9
  go_wp2
  go_ret
  exact ⟨rfl, rfl⟩
theorem big_no (A : Option Addr) (n c : Nat) (hn : n ≤ 1048576) (w : World) :
    Calls Try.prog 9 #[.slice A n c] w fun e w' => e = .returned (.bool false) ∧ w = w' := by
  have hd : decide ((1048576 : Int) < (n : Int)) = false := by simp; omega
  go_enter Try.func9, Try.ntmps9
  go_wp2
  go_ret
  exact ⟨rfl, rfl⟩

end Go.Proofs.Ytckofkdeedbbgaa
/- What this text proves: the laws' own reading of one byte returns a number from 0 to 255, whatever the place. -/
namespace Go.Proofs.Ytckofkdeedbbgaa
open Go.ChangeShapes Go.WideShapes Go.ChangeAt Go.RowKit
set_option linter.unusedVariables false

set_option maxHeartbeats 400000 in
theorem at_any (B : Nat) (A : Option Addr) (n c : Nat) (hn : n ≤ 1048576) (i : Nat) (hi : i ≤ 1000000) (w : World) (hc : CodeOk w B A n) :
    Calls Try.prog 14 #[.slice A n c, .int .i64 i] w (Small w) := by
  by_cases h0 : n = 0
  · subst h0
    go_enter Try.func14, Try.ntmps14
    go_wp2
    go_ret
    exact ⟨0, by omega, rfl, rfl⟩
  · rcases hc with hc | ⟨b, off, rfl, hlt, hcell⟩
    · exact absurd hc h0
    · have hd : ((n : Int) == 0) = false := by simp; omega
      have hd2 : 0 < n := by omega
      obtain ⟨x, hx, hxc⟩ := hcell ((i * 5 + 1) % n) (Nat.mod_lt _ hd2)
      have hlt2 : (i * 5 + 1) % n < n := Nat.mod_lt _ hd2
      have hm0 : (0 : Int) ≤ ((i : Int) * 5 + 1) % (n : Int) := Int.emod_nonneg _ (by omega)
      have hm1 : ((i : Int) * 5 + 1) % (n : Int) < (n : Int) := Int.emod_lt_of_pos _ (by omega)
      clear hcell h0
      go_enter Try.func14, Try.ntmps14
      go_wp2
      go_ret
      exact ⟨x, hx, rfl, rfl⟩
end Go.Proofs.Ytckofkdeedbbgaa
/- What this text proves: bytes that are handed to a law are there to be read, one by one. -/
namespace Go.Proofs.Ytckofkdeedbbgaa
open Go.ChangeShapes Go.WideShapes Go.ChangeAt Go.RowKit

theorem cell_lt {W : World} {p : Addr} {v : Value} (h : W.cell? p = some v) : p.block < W.heap.size := by
  rcases Nat.lt_or_ge p.block W.heap.size with h1 | h1
  · exact h1
  · simp [World.cell?, Array.getElem?_eq_none h1] at h

theorem code_of_cells {W : World} {a : Addr} {len cap : Nat} {zs : List Int} (hl : len ≤ cap) (hz : zs.length = cap)
    (hcell : ∀ i, i < zs.length → W.cell? (a.add i) = some (.int .u8 (zs.getD i 0))) (hw : ∀ n ∈ zs, (Lit.int .u8 n).wf = true) : CodeOk W W.heap.size (some a) len := by
  rcases Nat.eq_zero_or_pos len with h0 | h0
  · exact .inl h0
  · obtain ⟨b, off, spot⟩ := a
    have hspot : spot = none := by simpa [Addr.add] using World.cell?_spot (hcell 0 (by omega))
    subst hspot
    have hadd : ∀ i, (⟨b, off, none⟩ : Addr).add i = ⟨b, off + i, none⟩ := fun i => by unfold Addr.add; split <;> simp_all
    refine .inr ⟨b, off, rfl, ?_, fun j hj => ?_⟩
    · have h := cell_lt (hcell 0 (by omega))
      rw [hadd] at h
      exact h
    · have hr := range_u8 hw j
      have h := hcell j (by omega)
      rw [hadd] at h
      refine ⟨(zs.getD j 0).toNat, ?_, ?_⟩
      · rw [List.getD_eq_getElem?_getD]; omega
      · rw [h, Int.toNat_of_nonneg (by rw [List.getD_eq_getElem?_getD]; omega)]
end Go.Proofs.Ytckofkdeedbbgaa
