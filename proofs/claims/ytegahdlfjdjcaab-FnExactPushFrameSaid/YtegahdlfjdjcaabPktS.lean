/- What this text proves: the contracts of the laws' own functions over lists of packets: two lists that hold the same packets are found equal; marks that were written are found again. -/
import Derived.Test.YtegahdlfjdjcaabRowG
import Derived.Test.YtegahdlfjdjcaabPkt
import Derived.Laws.Concat
import Derived.Deep.RegionLaw
import Derived.Deep.LoopGhost
import Derived.BigRegion
import Derived.Outline
namespace Go.Proofs.Ytegahdlfjdjcaab
open Go.ChangeShapes Go.WideShapes Go.ChangeAt Go.RowKit
set_option linter.unusedVariables false

/-- A packet: Apid, Seq, Data. -/
abbrev Pk := Int × Int × ByteArray
abbrev pkC (p : Pk) : List Value := [.int .i64 p.1, .int .i64 p.2.1, .string p.2.2]
abbrev OwnP (w : World) (base : Nat) (v : Value) (l : List Pk) : Prop := OwnR 79 3 w base v (l.map pkC)
theorem OwnP.rows {w : World} {base : Nat} {v : Value} {l : List Pk} (h : OwnP w base v l) (hn : 0 < l.length) :
    ∃ g cap, v = .slice (some ⟨g, 0, none⟩) l.length cap ∧ base ≤ g ∧ g < w.heap.size ∧ (∀ k (hk : k < l.length), w.cell? ⟨g, k * 3, none⟩ = some (.int .i64 l[k].1) ∧ w.cell? ⟨g, k * 3 + 1, none⟩ = some (.int .i64 l[k].2.1) ∧ w.cell? ⟨g, k * 3 + 2, none⟩ = some (.string l[k].2.2)) ∧ (∀ j, w.frozen? ⟨g, j, none⟩ = false) := by
  obtain ⟨g, cap, hv, hb, hg, hc, hf⟩ := OwnR.rows h (by simpa using hn)
  refine ⟨g, cap, by rw [hv, List.length_map], hb, hg, fun k hk => ?_, hf⟩
  have h0 := hc k (by simpa using hk) 0 (by decide)
  have h1 := hc k (by simpa using hk) 1 (by decide)
  have h2 := hc k (by simpa using hk) 2 (by decide)
  simp only [List.getElem_map] at h0 h1 h2
  exact ⟨h0, h1, h2⟩

set_option maxHeartbeats 2000000 in
theorem eqP_any (w : World) (b1 b2 : Nat) (v1 v2 : Value) (l : List Pk) (hl : l.length ≤ 2000000) (h1 : OwnP w b1 v1 l) (h2 : OwnP w b2 v2 l) :
    Calls Try.prog 33 #[v1, v2] w fun e w' => e = .returned (.bool true) ∧ Below w.heap.size w w' := by
  rcases Nat.eq_zero_or_pos l.length with h0 | h0
  · obtain ⟨A1, c1, rfl⟩ := h1.form
    obtain ⟨A2, c2, rfl⟩ := h2.form
    rw [List.length_map, h0]
    go_enter Try.func33, Try.ntmps33
    go_wp2
    refine wp_loop_rounds 1 ?_
    rw [rounds_succ]
    go_wp2
    go_ret
    exact ⟨rfl, Below.refl _ _⟩
  · obtain ⟨g1, c1, rfl, _, hg1, hc1, _⟩ := h1.rows h0
    obtain ⟨g2, c2, rfl, _, hg2, hc2, _⟩ := h2.rows h0
    have H1 := Lib.hid hc1
    have H2 := Lib.hid hc2
    have HE := Lib.hid (fun a q d W => eq_pkt a q d W)
    clear hc1 hc2 h1 h2
    go_enter Try.func33, Try.ntmps33
    go_wp2
    go_loopg [5] l.length (fun g v5 wx => ∃ k : Nat, k ≤ l.length ∧ g = l.length - k ∧ v5 = .int .i64 (k : Int) ∧ Below w.heap.size w wx)
    case atStart => exact ⟨0, by omega, rfl, rfl, Below.refl _ _⟩
    case round =>
      obtain ⟨k, hk, rfl, rfl, hbel⟩ := hrel
      have HB := Lib.hid hbel
      by_cases hlt : k < l.length
      · have hd : decide (k < l.length) = true := by simp; omega
        obtain ⟨x0, x1, x2⟩ := H1.out k hlt
        obtain ⟨y0, y1, y2⟩ := H2.out k hlt
        have cx0 := (hbel.cell (p := ⟨g1, k * 3, none⟩) hg1).trans x0
        have cx1 := (hbel.cell (p := ⟨g1, k * 3 + 1, none⟩) hg1).trans x1
        have cx2 := (hbel.cell (p := ⟨g1, k * 3 + 2, none⟩) hg1).trans x2
        have cy0 := (hbel.cell (p := ⟨g2, k * 3, none⟩) hg2).trans y0
        have cy1 := (hbel.cell (p := ⟨g2, k * 3 + 1, none⟩) hg2).trans y1
        have cy2 := (hbel.cell (p := ⟨g2, k * 3 + 2, none⟩) hg2).trans y2
        clear x0 x1 x2 y0 y1 y2 hbel
        generalize l[k].1 = a at *
        generalize l[k].2.1 = q at *
        generalize l[k].2.2 = d at *
        go_wp2
        go_region_law ((go_simp; go_at_call 63; (with_reducible refine (HE.out _ _ _ _).mono ?_); rintro e w2 ⟨rfl, hb2⟩))
        all_goals go_wp2
        all_goals
          go_roundg (l.length - (k + 1))
          case measure => omega
          case rel => exact ⟨k + 1, by omega, rfl, by go_num, HB.out.drew.trans (hb2.mono HB.out.drew.size)⟩
      · have hd : decide (k < l.length) = false := by simp; omega
        clear hlt
        go_wp2
        go_ret
        exact ⟨rfl, HB.out⟩
end Go.Proofs.Ytegahdlfjdjcaab
