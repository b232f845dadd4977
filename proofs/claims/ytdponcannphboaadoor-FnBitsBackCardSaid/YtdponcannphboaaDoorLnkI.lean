/- What this text proves: the contracts of the model's SpreadBits and GatherBits. -/
import Derived.Test.YtdponcannphboaaDoorLnkD
import Derived.Deep.LoopGhost
namespace Go.Proofs.YtdponcannphboaaDoor
open Go.ChangeShapes Go.WideShapes Go.ChangeAt Go.RowKit
set_option linter.unusedVariables false

/-- The place in the spread text of the place p of a text of n bytes. -/
def plS (n p : Nat) : Nat := p % 8 * n + p / 8
theorem plS_at (n m k : Nat) (hk : k < 8) : plS n (8 * m + k) = k * n + m := by
  unfold plS
  rw [show (8 * m + k) % 8 = k by omega, show (8 * m + k) / 8 = m by omega]
/-- A byte of the row, as it is read and written. -/
theorem st_cell {w : World} {base g n c : Nat} {dn B : Nat → Bool} (h : RowB w base g n c (stT n dn B)) (P : Nat) (hP : P < 8 * n) : w.cell? ⟨g, P / 8, none⟩ = some (.int .u8 ((stB dn B (P / 8) : Nat) : Int)) := by
  rw [h.cell (P / 8) (by omega)]
  unfold cellB
  rw [stT_nat]
theorem st_store {w : World} {base g n c : Nat} {dn B : Nat → Bool} (h : RowB w base g n c (stT n dn B)) (P : Nat) (hP : P < 8 * n) :
    RowB (w.setCell ⟨g, P / 8, none⟩ (.int .u8 ((stB dn B (P / 8) ||| (if B P then 2 ^ (P % 8) else 0) : Nat) : Int))) base g n c (stT n (fun p => dn p || p == P) B) := by
  have h2 := h.store (P / 8) (UInt8.ofNat (stB dn B (P / 8) ||| (if B P then 2 ^ (P % 8) else 0)))
  rw [stT_step n dn B P hP, ofNat_nat] at h2
  · exact h2
  · have := stB_lt (fun p => dn p || p == P) B (P / 8)
    rw [stB_or] at this
    exact this
theorem row_drew {w : World} {base g n c : Nat} {m : List UInt8} (h : RowB w base g n c m) : RowB w.drew base g n c m := by
  unfold RowB at h ⊢
  exact World.ownsRow.drew h
theorem row_same {w : World} {base g n c : Nat} {m m' : List UInt8} (h : RowB w base g n c m) (e : m = m') : RowB w base g n c m' := e ▸ h

/-- The bit that comes to a place when a text is gathered. -/
def gatB (s : ByteArray) (p : Nat) : Bool := placeB s (plS s.size p)
theorem gat_all (s : ByteArray) : textOf s.size (fun j i => gatB s (8 * j + i)) = gatherT s := by
  unfold gatherT
  exact textOf_congr _ _ _ fun j hj i hi => by unfold gatB; rw [plS_at _ _ _ hi]
theorem plS_lt (n p : Nat) (h : p < 8 * n) : plS n p < 8 * n := by
  unfold plS
  exact place_lt _ _ _ (by omega) (by omega)
theorem plS_div (n m k : Nat) (hm : m < n) : (k * n + m) / n = k ∧ (k * n + m) % n = m := by
  have h0 : 0 < n := by omega
  refine ⟨?_, ?_⟩
  · rw [Nat.add_comm, Nat.add_mul_div_right _ _ h0, Nat.div_eq_of_lt hm, Nat.zero_add]
  · rw [Nat.add_comm, Nat.add_mul_mod_self_right, Nat.mod_eq_of_lt hm]
/-- A place is met once. -/
theorem plS_inj (n p q : Nat) (hp : p < 8 * n) (hq : q < 8 * n) (h : plS n p = plS n q) : p = q := by
  unfold plS at h
  have h1 := plS_div n (p / 8) (p % 8) (by omega)
  have h2 := plS_div n (q / 8) (q % 8) (by omega)
  rw [h] at h1
  omega

end Go.Proofs.YtdponcannphboaaDoor
