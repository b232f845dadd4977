/- What this text proves: lists of slots somewhere in a block of the call's own: their cells; the laws' own comparison finds equal ones equal. -/
import Derived.Test.YtdfcamlnebcbpacLs
import Derived.Test.YtdfcamlnebcbpacEl8
import Derived.Laws.Concat
import Derived.Deep.RegionLaw
import Derived.Deep.LoopGhost
import Derived.BigRegion
import Derived.Outline
namespace Go.Proofs.Ytdfcamlnebcbpac
open Go.ChangeShapes Go.WideShapes Go.ChangeAt Go.RowKit
set_option linter.unusedVariables false


abbrev Sl := Int × Int
abbrev slC (p : Sl) : List Value := [.int .i64 p.1, .int .i64 p.2]
abbrev OwnSl (w : World) (base : Nat) (v : Value) (l : List Sl) : Prop := LsO 2 w base v (l.map slC)
theorem info_sl : (Try.prog.info? 78).map (fun i => (i.zero, i.size, i.bytes)) = some (some (.agg #[.int .i64 0, .int .i64 0]), 2, 16) := by kernel_rfl
theorem sl_len (l : List Sl) : ∀ x ∈ l.map slC, x.length = 2 := fun x hx => by obtain ⟨q, _, rfl⟩ := List.mem_map.1 hx; rfl
theorem sl_one (l : List Sl) : ∀ x ∈ l.map slC, ∀ u ∈ x, u.oneCell' = true := fun x hx u hu => by
  obtain ⟨q, _, rfl⟩ := List.mem_map.1 hx
  simp only [slC, List.mem_cons, List.not_mem_nil, or_false] at hu
  rcases hu with rfl | rfl <;> rfl
theorem slCells {w : World} {base g off N c : Nat} {l : List Sl} (h : OwnSl w base (.slice (some ⟨g, off, none⟩) N c) l) (k : Nat) (hk : k < l.length) : w.cell? ⟨g, off + k * 2, none⟩ = some (.int .i64 l[k].1) ∧ w.cell? ⟨g, off + k * 2 + 1, none⟩ = some (.int .i64 l[k].2) := by
  have hc := (h.at rfl (by rw [List.length_map]; omega)).1
  have h0 := hc k (by rw [List.length_map]; exact hk) 0 (by decide)
  have h1 := hc k (by rw [List.length_map]; exact hk) 1 (by decide)
  simp only [List.getElem_map] at h0 h1
  exact ⟨h0, h1⟩
theorem slCellsI {w : World} {B b off : Nat} {A : Option Addr} {l : List Sl} (h : LsI 2 w B A (l.map slC)) (h0 : 0 < l.length) : ∃ b off, A = some ⟨b, off, none⟩ ∧ b < B ∧ ∀ k (hk : k < l.length), w.cell? ⟨b, off + k * 2, none⟩ = some (.int .i64 l[k].1) ∧ w.cell? ⟨b, off + k * 2 + 1, none⟩ = some (.int .i64 l[k].2) := by
  rcases h with h | ⟨b, off, hA, hb, hc⟩
  · rw [List.length_map] at h; omega
  · refine ⟨b, off, hA, hb, fun k hk => ?_⟩
    have h0 := hc k (by rw [List.length_map]; exact hk) 0 (by decide)
    have h1 := hc k (by rw [List.length_map]; exact hk) 1 (by decide)
    simp only [List.getElem_map] at h0 h1
    exact ⟨h0, h1⟩
theorem OwnSl.nform {w : World} {base : Nat} {v : Value} {l : List Sl} (h : OwnSl w base v l) : ∃ A c, v = .slice A l.length c := by
  obtain ⟨A, c, h1⟩ := LsO.form h
  exact ⟨A, c, by rw [h1, List.length_map]⟩

set_option maxHeartbeats 2000000 in
theorem eqSl_any (w : World) (b1 b2 : Nat) (v1 v2 : Value) (l : List Sl) (hl : l.length ≤ 2000000) (h1 : OwnSl w b1 v1 l) (h2 : OwnSl w b2 v2 l) :
    Calls Try.prog 16 #[v1, v2] w fun e w' => e = .returned (.bool true) ∧ Below w.heap.size w w' := by
  obtain ⟨A1, c1, rfl⟩ := OwnSl.nform h1
  obtain ⟨A2, c2, rfl⟩ := OwnSl.nform h2
  rcases Nat.eq_zero_or_pos l.length with h0 | h0
  · rw [h0]
    go_enter Try.func16, Try.ntmps16
    go_wp2
    refine wp_loop_rounds 1 ?_
    rw [rounds_succ]
    go_wp2
    go_ret
    exact ⟨rfl, Below.refl _ _⟩
  · obtain ⟨g1, o1, ⟨d1, e1⟩, _, _⟩ := h1.rows (by rw [List.length_map]; exact h0)
    obtain ⟨g2, o2, ⟨d2, e2⟩, _, _⟩ := h2.rows (by rw [List.length_map]; exact h0)
    injection e1 with e1 e1b e1c
    injection e2 with e2 e2b e2c
    clear e1b e1c e2b e2c
    subst e1 e2
    have hg1 := (h1.block rfl).2
    have hg2 := (h2.block rfl).2
    have H1 := Lib.hid (fun k hk => slCells h1 k hk)
    have H2 := Lib.hid (fun k hk => slCells h2 k hk)
    have HE := Lib.hid (fun x0 x1 W => eq_sl x0 x1 W)
    clear h1 h2
    go_enter Try.func16, Try.ntmps16
    go_wp2
    go_loopg [5] l.length (fun g v5 wx => ∃ k : Nat, k ≤ l.length ∧ g = l.length - k ∧ v5 = .int .i64 (k : Int) ∧ Below w.heap.size w wx)
    case atStart => exact ⟨0, by omega, rfl, rfl, Below.refl _ _⟩
    case round =>
      obtain ⟨k, hk, rfl, rfl, hbel⟩ := hrel
      have HB := Lib.hid hbel
      by_cases hlt : k < l.length
      · have hd : decide (k < l.length) = true := by simp; omega
        obtain ⟨x0, x1⟩ := H1.out k hlt
        obtain ⟨y0, y1⟩ := H2.out k hlt
        have cx0 := (hbel.cell (p := ⟨g1, o1 + k * 2, none⟩) hg1).trans x0
        have cx1 := (hbel.cell (p := ⟨g1, o1 + k * 2 + 1, none⟩) hg1).trans x1
        have cy0 := (hbel.cell (p := ⟨g2, o2 + k * 2, none⟩) hg2).trans y0
        have cy1 := (hbel.cell (p := ⟨g2, o2 + k * 2 + 1, none⟩) hg2).trans y1
        clear x0 x1 y0 y1 hbel
        generalize l[k].1 = a0 at *
        generalize l[k].2 = a1 at *
        go_wp2
        go_region_law ((go_simp; go_at_call 52; (with_reducible refine (HE.out _ _ _).mono ?_); rintro e w2 ⟨rfl, hb2⟩))
        all_goals go_wp2
        all_goals
          go_roundg (l.length - (k + 1))
          case measure => omega
          case rel => exact ⟨k + 1, by omega, rfl, by go_num, HB.out.drew.trans (hb2.mono HB.out.drew.size)⟩
      · have hd : decide (k < l.length) = false := by simp; omega
        clear hlt
        go_wp2
        go_ret
        exact ⟨rfl, HB.out⟩
end Go.Proofs.Ytdfcamlnebcbpac
