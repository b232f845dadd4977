/- What this text proves: lists of commands that wait, in a slice of the call's own: the laws' own comparison finds equal ones equal. -/
import Derived.Test.YtmmedhjmilgnbabRowG
import Derived.Test.YtmmedhjmilgnbabSnt
import Derived.Laws.Concat
import Derived.Deep.RegionLaw
import Derived.Deep.LoopGhost
import Derived.BigRegion
import Derived.Outline
namespace Go.Proofs.Ytmmedhjmilgnbab
open Go.ChangeShapes Go.WideShapes Go.ChangeAt Go.RowKit
set_option linter.unusedVariables false

/-- A command that waits: its number, its data. -/
abbrev Sn := Int × ByteArray
abbrev snC (p : Sn) : List Value := [.int .i64 p.1, .string p.2]
abbrev OwnN (w : World) (base : Nat) (v : Value) (l : List Sn) : Prop := OwnR 52 2 w base v (l.map snC)
theorem info_snt : (Try.prog.info? 52).map (fun i => (i.zero, i.size, i.bytes)) = some (some (snV 0 ⟨#[]⟩), 2, 24) := by kernel_rfl
theorem OwnN.rows {w : World} {base : Nat} {v : Value} {l : List Sn} (h : OwnN w base v l) (hn : 0 < l.length) :
    ∃ g cap, v = .slice (some ⟨g, 0, none⟩) l.length cap ∧ base ≤ g ∧ g < w.heap.size ∧ (∀ k (hk : k < l.length), w.cell? ⟨g, k * 2, none⟩ = some (.int .i64 l[k].1) ∧ w.cell? ⟨g, k * 2 + 1, none⟩ = some (.string l[k].2)) ∧ (∀ j, w.frozen? ⟨g, j, none⟩ = false) := by
  obtain ⟨g, cap, hv, hb, hg, hc, hf⟩ := OwnR.rows h (by simpa using hn)
  refine ⟨g, cap, by rw [hv, List.length_map], hb, hg, fun k hk => ?_, hf⟩
  have h0 := hc k (by simpa using hk) 0 (by decide)
  have h1 := hc k (by simpa using hk) 1 (by decide)
  simp only [List.getElem_map] at h0 h1
  exact ⟨h0, h1⟩
theorem OwnN.nform {w : World} {base : Nat} {v : Value} {l : List Sn} (h : OwnN w base v l) : ∃ A c, v = .slice A l.length c := by
  obtain ⟨A, c, h1⟩ := OwnR.form h
  exact ⟨A, c, by rw [h1, List.length_map]⟩

set_option maxHeartbeats 2000000 in
theorem eqSn_any (w : World) (b1 b2 : Nat) (v1 v2 : Value) (l : List Sn) (hl : l.length ≤ 2000000) (h1 : OwnN w b1 v1 l) (h2 : OwnN w b2 v2 l) :
    Calls Try.prog 31 #[v1, v2] w fun e w' => e = .returned (.bool true) ∧ Below w.heap.size w w' := by
  rcases Nat.eq_zero_or_pos l.length with h0 | h0
  · obtain ⟨A1, c1, rfl⟩ := h1.form
    obtain ⟨A2, c2, rfl⟩ := h2.form
    rw [List.length_map, h0]
    go_enter Try.func31, Try.ntmps31
    go_wp2
    refine wp_loop_rounds 1 ?_
    rw [rounds_succ]
    go_wp2
    go_ret
    exact ⟨rfl, Below.refl _ _⟩
  · obtain ⟨g1, c1, rfl, _, hg1, hc1, _⟩ := h1.rows h0
    obtain ⟨g2, c2, rfl, _, hg2, hc2, _⟩ := h2.rows h0
    have H1 := Lib.hid hc1
    have H2 := Lib.hid hc2
    have HE := Lib.hid (fun q d W => eq_snt q d W)
    clear hc1 hc2 h1 h2
    go_enter Try.func31, Try.ntmps31
    go_wp2
    go_loopg [5] l.length (fun g v5 wx => ∃ k : Nat, k ≤ l.length ∧ g = l.length - k ∧ v5 = .int .i64 (k : Int) ∧ Below w.heap.size w wx)
    case atStart => exact ⟨0, by omega, rfl, rfl, Below.refl _ _⟩
    case round =>
      obtain ⟨k, hk, rfl, rfl, hbel⟩ := hrel
      have HB := Lib.hid hbel
      by_cases hlt : k < l.length
      · have hd : decide (k < l.length) = true := by simp; omega
        obtain ⟨x0, x1⟩ := H1.out k hlt
        obtain ⟨y0, y1⟩ := H2.out k hlt
        have cx0 := (hbel.cell (p := ⟨g1, k * 2, none⟩) hg1).trans x0
        have cx1 := (hbel.cell (p := ⟨g1, k * 2 + 1, none⟩) hg1).trans x1
        have cy0 := (hbel.cell (p := ⟨g2, k * 2, none⟩) hg2).trans y0
        have cy1 := (hbel.cell (p := ⟨g2, k * 2 + 1, none⟩) hg2).trans y1
        clear x0 x1 y0 y1 hbel
        generalize l[k].1 = a at *
        generalize l[k].2 = d at *
        go_wp2
        go_region_law ((go_simp; go_at_call 40; (with_reducible refine (HE.out _ _ _).mono ?_); rintro e w2 ⟨rfl, hb2⟩))
        all_goals go_wp2
        all_goals
          go_roundg (l.length - (k + 1))
          case measure => omega
          case rel => exact ⟨k + 1, by omega, rfl, by go_num, HB.out.drew.trans (hb2.mono HB.out.drew.size)⟩
      · have hd : decide (k < l.length) = false := by simp; omega
        clear hlt
        go_wp2
        go_ret
        exact ⟨rfl, HB.out⟩
end Go.Proofs.Ytmmedhjmilgnbab
