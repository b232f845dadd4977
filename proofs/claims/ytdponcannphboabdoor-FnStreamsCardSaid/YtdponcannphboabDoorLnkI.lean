/- What this text proves: the contracts of the model's SpreadBits and GatherBits. -/
import Derived.Test.YtdponcannphboabDoorLnkD
import Derived.Deep.LoopGhost
namespace Go.Proofs.YtdponcannphboabDoor
open Go.ChangeShapes Go.WideShapes Go.ChangeAt Go.RowKit
set_option linter.unusedVariables false

/-- The place in the spread text of the place p of a text of n bytes. -/
def plS (n p : Nat) : Nat := p % 8 * n + p / 8
theorem plS_at (n m k : Nat) (hk : k < 8) : plS n (8 * m + k) = k * n + m := by
  unfold plS
  rw [show (8 * m + k) % 8 = k by omega, show (8 * m + k) / 8 = m by omega]
/-- A byte of the row, as it is read and written. -/
theorem st_cell {w : World} {base g n c : Nat} {dn B : Nat → Bool} (h : RowB w base g n c (stT n dn B)) (P : Nat) (hP : P < 8 * n) : w.cell? ⟨g, P / 8, none⟩ = some (.int .u8 ((stB dn B (P / 8) : Nat) : Int)) := by
  rw [h.cell (P / 8) (by omega)]
  unfold cellB
  rw [stT_nat]
theorem st_store {w : World} {base g n c : Nat} {dn B : Nat → Bool} (h : RowB w base g n c (stT n dn B)) (P : Nat) (hP : P < 8 * n) :
    RowB (w.setCell ⟨g, P / 8, none⟩ (.int .u8 ((stB dn B (P / 8) ||| (if B P then 2 ^ (P % 8) else 0) : Nat) : Int))) base g n c (stT n (fun p => dn p || p == P) B) := by
  have h2 := h.store (P / 8) (UInt8.ofNat (stB dn B (P / 8) ||| (if B P then 2 ^ (P % 8) else 0)))
  rw [stT_step n dn B P hP, ofNat_nat] at h2
  · exact h2
  · have := stB_lt (fun p => dn p || p == P) B (P / 8)
    rw [stB_or] at this
    exact this
theorem row_drew {w : World} {base g n c : Nat} {m : List UInt8} (h : RowB w base g n c m) : RowB w.drew base g n c m := by
  unfold RowB at h ⊢
  exact World.ownsRow.drew h
theorem row_same {w : World} {base g n c : Nat} {m m' : List UInt8} (h : RowB w base g n c m) (e : m = m') : RowB w base g n c m' := e ▸ h

set_option maxHeartbeats 4000000 in
theorem spread_spec (s : ByteArray) (hs : s.size ≤ 1048576) (w : World) :
    Calls Tryd.prog 27 #[.string s] w fun e w' => e = .returned (.string (spreadT s)) ∧ Below w.heap.size w w' := by
  have hmk := fun W => make_full W s.size (by omega)
  have hrow0 := Lib.hid (make_row w s.size (by omega))
  go_enter Tryd.func27, Tryd.ntmps27
  go_wp2
  clear hmk
  go_loopg [5] 8 (fun g s5 wx => ∃ k : Nat, s5 = .int .i64 (k : Int) ∧ k ≤ 8 ∧ g = 8 - k ∧ RowB wx w.heap.size w.heap.size s.size s.size (stT s.size (fun p => decide (p < k * s.size)) (sprB s)) ∧ Below w.heap.size w wx)
  case atStart => exact ⟨0, rfl, by omega, rfl, row_same hrow0.out (stT_none _ _ _ (fun p _ => by simp)).symm, (Below.refl _ _).alloc (Nat.le_refl _) _⟩
  case round =>
    obtain ⟨k, rfl, hk, rfl, hrow, hbel⟩ := hrel
    have HR := Lib.hid hrow
    have HB := Lib.hid hbel
    clear hrow hbel
    by_cases hlt : k < 8
    · have hd : decide ((k : Int) < 8) = true := by simp; omega
      go_wp2
      go_loopg [6] s.size (fun g s6 wx => ∃ m : Nat, s6 = .int .i64 (m : Int) ∧ m ≤ s.size ∧ g = s.size - m ∧ RowB wx w.heap.size w.heap.size s.size s.size (stT s.size (fun p => decide (p < k * s.size + m)) (sprB s)) ∧ Below w.heap.size w wx)
      case atStart => exact ⟨0, rfl, by omega, rfl, HR.out, HB.out⟩
      case round =>
        obtain ⟨m, rfl, hm, rfl, hrow, hbel⟩ := hrel
        have HR := Lib.hid hrow
        have HB := Lib.hid hbel
        by_cases hlm : m < s.size
        · have hd2 : decide (m < s.size) = true := by simp; omega
          have hP := place_lt s.size k m hlt hlm
          have hmul : (k : Int) * (s.size : Int) + (m : Int) = ((k * s.size + m : Nat) : Int) := by push_cast; rfl
          have hwm : IntKind.i64.wrap ((k : Int) * (s.size : Int)) = (k : Int) * (s.size : Int) := by
            have h2 := Nat.mul_le_mul_right s.size (show k ≤ 8 by omega)
            have h3 : (k : Int) * (s.size : Int) = ((k * s.size : Nat) : Int) := by push_cast; rfl
            rw [h3]
            exact IntWalk.i64_in _ (by omega)
          have hbit := spr_at s k m hlm
          generalize hPe : k * s.size + m = P at *
          have HBIT := Lib.hid hbit
          have HPE := Lib.hid hPe
          clear hbit hPe
          have hc := st_cell hrow P hP
          have hf := hrow.frozen (P / 8)
          have hst := Lib.hid (st_store hrow P hP)
          have hF := stB_lt (fun p => decide (p < P)) (sprB s) (P / 8)
          have hb := byteAt_lt s m
          have eb := byteAt_of s m hlm
          clear hrow hbel
          generalize stB (fun p => decide (p < P)) (sprB s) (P / 8) = F at *
          go_wp2
          go_region
          go_wp2
          go_roundg (s.size - (m + 1))
          case measure => omega
          case rel =>
            refine ⟨m + 1, by go_num, by omega, rfl, ?_, (HB.out.setCell (p := ⟨w.heap.size, P / 8, none⟩) (Nat.le_refl _) _).drew⟩
            have h := hst.out
            rw [HBIT.out] at h
            rw [set_bit F _ _ _ hF hb (by omega)]
            refine row_same (row_drew h) (stT_congr _ _ _ _ fun p _ => ?_)
            have := HPE.out
            rw [Bool.eq_iff_iff]
            simp
            omega
        · obtain rfl : m = s.size := by omega
          have hd2 : decide (s.size < s.size) = false := by simp
          clear hrow hbel
          go_wp2
          go_roundg (8 - (k + 1))
          case measure => omega
          case rel => exact ⟨k + 1, by go_num, by omega, rfl, row_same HR.out (stT_congr _ _ _ _ fun p _ => by rw [Nat.succ_mul]), HB.out⟩
    · obtain rfl : k = 8 := by omega
      have hcv := conv_bytes wr _ _ _ HR.out.own
      have hd : decide ((8 : Int) < 8) = false := by decide
      have HV := Lib.hid (stT_all s.size (fun p => decide (p < 8 * s.size)) (sprB s) (fun p hp => by simpa using hp))
      go_wp2
      go_ret
      exact ⟨by rw [HV.out]; rfl, HB.out⟩

/-- The bit that comes to a place when a text is gathered. -/
def gatB (s : ByteArray) (p : Nat) : Bool := placeB s (plS s.size p)
theorem gat_all (s : ByteArray) : textOf s.size (fun j i => gatB s (8 * j + i)) = gatherT s := by
  unfold gatherT
  exact textOf_congr _ _ _ fun j hj i hi => by unfold gatB; rw [plS_at _ _ _ hi]
theorem plS_lt (n p : Nat) (h : p < 8 * n) : plS n p < 8 * n := by
  unfold plS
  exact place_lt _ _ _ (by omega) (by omega)
theorem plS_div (n m k : Nat) (hm : m < n) : (k * n + m) / n = k ∧ (k * n + m) % n = m := by
  have h0 : 0 < n := by omega
  refine ⟨?_, ?_⟩
  · rw [Nat.add_comm, Nat.add_mul_div_right _ _ h0, Nat.div_eq_of_lt hm, Nat.zero_add]
  · rw [Nat.add_comm, Nat.add_mul_mod_self_right, Nat.mod_eq_of_lt hm]
/-- A place is met once. -/
theorem plS_inj (n p q : Nat) (hp : p < 8 * n) (hq : q < 8 * n) (h : plS n p = plS n q) : p = q := by
  unfold plS at h
  have h1 := plS_div n (p / 8) (p % 8) (by omega)
  have h2 := plS_div n (q / 8) (q % 8) (by omega)
  rw [h] at h1
  omega

set_option maxHeartbeats 4000000 in
theorem gather_spec (s : ByteArray) (hs : s.size ≤ 1048576) (w : World) :
    Calls Tryd.prog 33 #[.string s] w fun e w' => e = .returned (.string (gatherT s)) ∧ Below w.heap.size w w' := by
  have hmk := fun W => make_full W s.size (by omega)
  have hrow0 := Lib.hid (make_row w s.size (by omega))
  go_enter Tryd.func33, Tryd.ntmps33
  go_wp2
  clear hmk
  go_loopg [5] 8 (fun g s5 wx => ∃ k : Nat, s5 = .int .i64 (k : Int) ∧ k ≤ 8 ∧ g = 8 - k ∧ RowB wx w.heap.size w.heap.size s.size s.size (stT s.size (fun p => decide (plS s.size p < k * s.size)) (gatB s)) ∧ Below w.heap.size w wx)
  case atStart => exact ⟨0, rfl, by omega, rfl, row_same hrow0.out (stT_none _ _ _ (fun p _ => by simp)).symm, (Below.refl _ _).alloc (Nat.le_refl _) _⟩
  case round =>
    obtain ⟨k, rfl, hk, rfl, hrow, hbel⟩ := hrel
    have HR := Lib.hid hrow
    have HB := Lib.hid hbel
    clear hrow hbel
    by_cases hlt : k < 8
    · have hd : decide ((k : Int) < 8) = true := by simp; omega
      go_wp2
      go_loopg [6] s.size (fun g s6 wx => ∃ m : Nat, s6 = .int .i64 (m : Int) ∧ m ≤ s.size ∧ g = s.size - m ∧ RowB wx w.heap.size w.heap.size s.size s.size (stT s.size (fun p => decide (plS s.size p < k * s.size + m)) (gatB s)) ∧ Below w.heap.size w wx)
      case atStart => exact ⟨0, rfl, by omega, rfl, HR.out, HB.out⟩
      case round =>
        obtain ⟨m, rfl, hm, rfl, hrow, hbel⟩ := hrel
        have HR := Lib.hid hrow
        have HB := Lib.hid hbel
        by_cases hlm : m < s.size
        · have hd2 : decide (m < s.size) = true := by simp; omega
          have hP := place_lt s.size k m hlt hlm
          have hmul : (k : Int) * (s.size : Int) + (m : Int) = ((k * s.size + m : Nat) : Int) := by push_cast; rfl
          have hwm : IntKind.i64.wrap ((k : Int) * (s.size : Int)) = (k : Int) * (s.size : Int) := by
            have h2 := Nat.mul_le_mul_right s.size (show k ≤ 8 by omega)
            have h3 : (k : Int) * (s.size : Int) = ((k * s.size : Nat) : Int) := by push_cast; rfl
            rw [h3]
            exact IntWalk.i64_in _ (by omega)
          have hQ : 8 * m + k < 8 * s.size := by omega
          have hQ1 : (8 * m + k) / 8 = m := by omega
          have hQ2 : (8 * m + k) % 8 = k := by omega
          have hpl := plS_at s.size m k hlt
          have hbit : gatB s (8 * m + k) = (byteAt s ((k * s.size + m) / 8)).testBit ((k * s.size + m) % 8) := by unfold gatB; rw [hpl]; rfl
          have hc := st_cell hrow (8 * m + k) hQ
          have hf := hrow.frozen m
          have hst := st_store hrow (8 * m + k) hQ
          have hF := stB_lt (fun p => decide (plS s.size p < k * s.size + m)) (gatB s) ((8 * m + k) / 8)
          have hpp := fun p hp h => plS_inj s.size p (8 * m + k) hp hQ h
          rw [hpl] at hpp
          rw [hQ1] at hc hst hF
          rw [hQ2] at hst
          generalize hPe : k * s.size + m = P at *
          have HBIT := Lib.hid hbit
          have HPE := Lib.hid hPe
          have HPP := Lib.hid hpp
          have HST := Lib.hid hst
          clear hbit hPe hpp hst hpl
          have hlp : P / 8 < s.size := by omega
          have hb := byteAt_lt s (P / 8)
          have eb := byteAt_of s (P / 8) hlp
          have hq8 : (P : Int) / 8 = ((P / 8 : Nat) : Int) := by omega
          have hr8 : (P : Int) % 8 = ((P % 8 : Nat) : Int) := by omega
          have hwp : IntKind.i64.wrap ((P / 8 : Nat) : Int) = ((P / 8 : Nat) : Int) := IntWalk.i64_in _ (by omega)
          have hwq : IntKind.i64.wrap ((P % 8 : Nat) : Int) = ((P % 8 : Nat) : Int) := IntWalk.i64_in _ (by omega)
          generalize P / 8 = q at *
          generalize P % 8 = r at *
          clear hrow hbel hQ hQ1 hQ2
          generalize stB (fun p => decide (plS s.size p < P)) (gatB s) m = F at *
          go_wp2
          go_region
          go_wp2
          go_roundg (s.size - (m + 1))
          case measure => omega
          case rel =>
            refine ⟨m + 1, by go_num, by omega, rfl, ?_, (HB.out.setCell (p := ⟨w.heap.size, m, none⟩) (Nat.le_refl _) _).drew⟩
            have h := HST.out
            rw [HBIT.out] at h
            rw [set_bit F _ _ _ hF hb (by omega)]
            refine row_same (row_drew h) (stT_congr _ _ _ _ fun p hp => ?_)
            have := HPE.out
            have h3 := HPP.out p hp
            have h4 := plS_at s.size m k hlt
            rw [Bool.eq_iff_iff]
            simp
            constructor
            · rintro (h5 | h5)
              · omega
              · rw [h5, h4]; omega
            · intro h5
              by_cases h6 : plS s.size p = P
              · exact .inr (h3 h6)
              · omega
        · obtain rfl : m = s.size := by omega
          have hd2 : decide (s.size < s.size) = false := by simp
          clear hrow hbel
          go_wp2
          go_roundg (8 - (k + 1))
          case measure => omega
          case rel => exact ⟨k + 1, by go_num, by omega, rfl, row_same HR.out (stT_congr _ _ _ _ fun p _ => by rw [Nat.succ_mul]), HB.out⟩
    · obtain rfl : k = 8 := by omega
      have hcv := conv_bytes wr _ _ _ HR.out.own
      have hd : decide ((8 : Int) < 8) = false := by decide
      have HV := Lib.hid ((stT_all s.size (fun p => decide (plS s.size p < 8 * s.size)) (gatB s) (fun p hp => by simpa using plS_lt s.size p hp)).trans (gat_all s))
      go_wp2
      go_ret
      exact ⟨by rw [← HV.out]; rfl, HB.out⟩
end Go.Proofs.YtdponcannphboabDoor
