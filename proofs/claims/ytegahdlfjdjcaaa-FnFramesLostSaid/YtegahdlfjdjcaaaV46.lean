/- What this text proves: the parts SameP, At of the proof, each under its own words. -/
import Derived.Test.YtegahdlfjdjcaaaV02
import Derived.BigQuiet
import Derived.Test.YtegahdlfjdjcaaaV43
/- What this text proves: two lists that hold the same packets are found to be the same by the laws' own function. -/
namespace Go.Proofs.Ytegahdlfjdjcaaa
open Go.ChangeShapes Go.WideShapes Go.ChangeAt Go.RowKit
set_option linter.unusedVariables false

set_option maxHeartbeats 2000000 in
theorem same_pkts (w : World) (b1 b2 : Nat) (v1 v2 : Value) (l : List Pk) (hl : l.length ≤ 2000000) (h1 : OwnP w b1 v1 l) (h2 : OwnP w b2 v2 l) :
    Calls Try.prog 31 #[v1, v2] w fun e w' => e = .returned (.bool true) ∧ Below w.heap.size w w' := by
  have hne : ((l.length : Int) != (l.length : Int)) = false := by simp
  rcases Nat.eq_zero_or_pos l.length with h0 | h0
  · obtain ⟨A1, c1, rfl⟩ := h1.form
    obtain ⟨A2, c2, rfl⟩ := h2.form
    rw [List.length_map, h0]
    go_enter Try.func31, Try.ntmps31
    go_wp2
    refine wp_loop_rounds 1 ?_
    rw [rounds_succ]
    go_wp2
    go_ret
    exact ⟨rfl, Below.refl _ _⟩
  · obtain ⟨g1, c1, rfl, _, hg1, hc1, _⟩ := h1.rows h0
    obtain ⟨g2, c2, rfl, _, hg2, hc2, _⟩ := h2.rows h0
    have H1 := Lib.hid hc1
    have H2 := Lib.hid hc2
    clear hc1 hc2 h1 h2
    go_enter Try.func31, Try.ntmps31
    go_wp2
    go_loopg [5] l.length (fun g v5 wx => ∃ k : Nat, k ≤ l.length ∧ g = l.length - k ∧ v5 = .int .i64 (k : Int) ∧ Below w.heap.size w wx)
    case atStart => exact ⟨0, by omega, rfl, rfl, Below.refl _ _⟩
    case round =>
      obtain ⟨k, hk, rfl, rfl, hbel⟩ := hrel
      have HB := Lib.hid hbel
      by_cases hlt : k < l.length
      · have hd : decide (k < l.length) = true := by simp; omega
        obtain ⟨x0, x1, x2⟩ := H1.out k hlt
        obtain ⟨y0, y1, y2⟩ := H2.out k hlt
        have cx0 := (hbel.cell (p := ⟨g1, k * 3, none⟩) hg1).trans x0
        have cx1 := (hbel.cell (p := ⟨g1, k * 3 + 1, none⟩) hg1).trans x1
        have cx2 := (hbel.cell (p := ⟨g1, k * 3 + 2, none⟩) hg1).trans x2
        have cy0 := (hbel.cell (p := ⟨g2, k * 3, none⟩) hg2).trans y0
        have cy1 := (hbel.cell (p := ⟨g2, k * 3 + 1, none⟩) hg2).trans y1
        have cy2 := (hbel.cell (p := ⟨g2, k * 3 + 2, none⟩) hg2).trans y2
        clear x0 x1 x2 y0 y1 y2 hbel
        generalize l[k].1 = a at *
        generalize l[k].2.1 = q at *
        generalize l[k].2.2 = d at *
        have hself : (d.toList == d.toList) = true := beq_self_eq_true _
        go_wp2
        go_quiet (fail)
        go_wp2
        go_roundg (l.length - (k + 1))
        case measure => omega
        case rel => exact ⟨k + 1, by omega, rfl, by go_num, below_draws HB.out _⟩
      · have hd : decide (k < l.length) = false := by simp; omega
        clear hlt
        go_wp2
        go_ret
        exact ⟨rfl, HB.out⟩
end Go.Proofs.Ytegahdlfjdjcaaa
/- What this text proves: the laws' own reading of one byte returns a number from 0 to 255, whatever the place. -/
namespace Go.Proofs.Ytegahdlfjdjcaaa
open Go.ChangeShapes Go.WideShapes Go.ChangeAt Go.RowKit
set_option linter.unusedVariables false

set_option maxHeartbeats 400000 in
theorem at_any (B : Nat) (A : Option Addr) (n c : Nat) (hn : n ≤ 1048576) (i : Nat) (hi : i ≤ 1000000) (w : World) (hc : CodeOk w B A n) :
    Calls Try.prog 21 #[.slice A n c, .int .i64 i] w (Small w) := by
  by_cases h0 : n = 0
  · subst h0
    go_enter Try.func21, Try.ntmps21
    go_wp2
    go_ret
    exact ⟨0, by omega, rfl, rfl⟩
  · rcases hc with hc | ⟨b, off, rfl, hlt, hcell⟩
    · exact absurd hc h0
    · have hd : ((n : Int) == 0) = false := by simp; omega
      have hd2 : 0 < n := by omega
      obtain ⟨x, hx, hxc⟩ := hcell ((i * 5 + 1) % n) (Nat.mod_lt _ hd2)
      have hlt2 : (i * 5 + 1) % n < n := Nat.mod_lt _ hd2
      have hm0 : (0 : Int) ≤ ((i : Int) * 5 + 1) % (n : Int) := Int.emod_nonneg _ (by omega)
      have hm1 : ((i : Int) * 5 + 1) % (n : Int) < (n : Int) := Int.emod_lt_of_pos _ (by omega)
      clear hcell h0
      go_enter Try.func21, Try.ntmps21
      go_wp2
      go_ret
      exact ⟨x, hx, rfl, rfl⟩
end Go.Proofs.Ytegahdlfjdjcaaa
